/- Walks of dec: Norm, Neg. -/
import Derived.Test.YtofeckdhhaoobaaDoorDecB
import Derived.Deep.RegionHeld3
namespace Go.Proofs.YtofeckdhhaoobaaDoor
open Go.RowKit LM

def ResA (A : Ans) (w : World) (r : Ending) (w' : World) : Prop := ∃ a' c', r = .returned (.tuple #[.agg #[.bool A.p.neg, .slice a' (dg 1000000000 A.p.m).length c', .int .i64 A.p.e], .int .i64 (A.err : Nat)]) ∧ Own w' w.heap.size 50 .u32 a' c' (dg 1000000000 A.p.m) ∧ Below w.heap.size w w'

theorem bcell {W w1 : World} (hb : Below W.heap.size W w1) : (∀ b o, b < W.heap.size → w1.cell? ⟨b, o, none⟩ = W.cell? ⟨b, o, none⟩) ∧ (∀ b o, b < W.heap.size → w1.frozen? ⟨b, o, none⟩ = W.frozen? ⟨b, o, none⟩) :=
  ⟨fun b o h => hb.cell (p := ⟨b, o, none⟩) h, fun b o h => hb.frozen (p := ⟨b, o, none⟩) h⟩

theorem near_few {l : List Nat} (hlo : Lo 4294967296 l) (h : l.length ≤ 200) : tz (vl 1000000000 l) ≤ 30000 ∧ (dg 1000000000 (vl 1000000000 l)).length ≤ 100000 := by
  have h1 : (dg 1000000000 (vl 1000000000 l)).length ≤ l.length + 1 := nlen hlo
  refine ⟨?_, by omega⟩
  rcases Nat.eq_zero_or_pos (vl 1000000000 l) with e | e
  · rw [e, tz_zero]; omega
  · have h2 : (dg 10 (vl 1000000000 l)).length ≤ 9 * (l.length + 1) := by have := dg10_le hlo l.length; rwa [List.take_length] at this
    have h3 := dg_upper (b := 10) (by omega) (vl 1000000000 l)
    have := tz_lt e h3
    omega

/-- the result's cells behind two calls -/
theorem res3 {w1 w2 w3 : World} {g : Nat} (h : ∀ j, j < 3 → ∃ x, w1.cell? ⟨g, j, none⟩ = some x) (hf : ∀ j, w1.frozen? ⟨g, j, none⟩ = false) (b1 : Below w1.heap.size w1 w2) (b2 : Below w2.heap.size w2 w3) :
    (∃ x, w3.cell? ⟨g, 0, none⟩ = some x) ∧ (∃ x, w3.cell? ⟨g, 1, none⟩ = some x) ∧ (∃ x, w3.cell? ⟨g, 2, none⟩ = some x) ∧ ∀ j, w3.frozen? ⟨g, j, none⟩ = false := by
  have b3 := b1.trans (b2.mono b1.size)
  have hg : g < w1.heap.size := by obtain ⟨x, hx⟩ := h 0 (by omega); exact lt_of_cell hx
  have k : ∀ j, j < 3 → ∃ x, w3.cell? ⟨g, j, none⟩ = some x := fun j hj => by rw [b3.cell (p := ⟨g, j, none⟩) hg]; exact h j hj
  exact ⟨k 0 (by omega), k 1 (by omega), k 2 (by omega), fun j => by rw [b3.frozen (p := ⟨g, j, none⟩) hg]; exact hf j⟩

set_option maxHeartbeats 4000000 in
theorem DNorm_any (s : Bool) (a : Option Addr) (c : Nat) (l : List Nat) (e : Int) (w : World) (hl : l.length ≤ 9223372036854775807) (hlo : Lo 4294967296 l) (hrd : Rd w .u32 a l) (htab : Tab w) :
    Calls Tryd.prog 13 #[.agg #[.bool s, .slice a l.length c, .int .i64 e]] w (ResA (normA l.length s (vl 1000000000 l) e) w) := by
  rcases hnr : nearB l.length e with _ | _
  · have hA : normA l.length s (vl 1000000000 l) e = ⟨1, zP⟩ := by unfold normA; rw [if_neg (by rw [hnr]; exact Bool.false_ne_true)]
    rw [hA]
    have hI := fun W => isNear_any s a l.length c e W
    rw [hnr] at hI
    have HI := Lib.hid hI
    clear hI hnr hA hlo hrd htab
    go_enter Tryd.func13, Tryd.ntmps13
    go_wp2_with fail
    refine (HI.out _).mono ?_
    rintro r w1 ⟨rfl, hb⟩
    obtain ⟨hc, hf⟩ := bcell hb
    have bb := (((Below.refl w.heap.size w).alloc (Nat.le_refl _) (.cells #[.bool s, .slice a l.length c, .int .i64 e] 24)).alloc (by simp) (.cells #[.bool false, .slice none 0 0, .int .i64 0] 24)).trans (hb.mono (by simp; omega))
    clear hb
    go_wp2
    refine bodyPost_ret (v := .tuple #[.agg #[.bool false, .slice none 0 0, .int .i64 0], .int .i64 1]) (by simp [results, Tryd.results13, go_sem, hc, hf]) rfl ?_
    exact ⟨none, 0, by show _ = Ending.returned (.tuple #[.agg #[.bool false, .slice none (dg 1000000000 0).length 0, .int .i64 0], .int .i64 1]); rw [dg_zero]; rfl, by show Own _ _ _ .u32 none 0 (dg 1000000000 0); rw [dg_zero]; exact Own.nilNone _ _ _ _, ((bb.setCell (Nat.le_succ _) _).setCell (Nat.le_succ _) _).setCell (Nat.le_succ _) _⟩
  · have hI := fun W => isNear_any s a l.length c e W
    rw [hnr] at hI
    have HI := Lib.hid hI
    have hA : normA l.length s (vl 1000000000 l) e = tellA s (vl 1000000000 l) e := by unfold normA; rw [if_pos hnr]
    rw [hA]
    have hn := of_decide_eq_true hnr
    have hN := fun W hb => Norm_any a c l W (by omega) hlo (hrd.below' (w' := W) hb (Nat.le_refl _))
    have HN := Lib.hid hN
    obtain ⟨hv1, hv2⟩ := near_few hlo hn.1
    have hTL := fun a1 c1 W hr ht => tell_any s a1 c1 (vl 1000000000 l) e W hv1 hv2 (by omega) (by omega) hr ht
    have HTL := Lib.hid hTL
    clear hI hnr hA hN hTL hv1 hv2
    go_enter Tryd.func13, Tryd.ntmps13
    go_wp2_with fail
    refine (HI.out _).mono ?_
    rintro r w1 ⟨rfl, hb⟩
    obtain ⟨hc, hf⟩ := bcell hb
    have bb := (((Below.refl w.heap.size w).alloc (Nat.le_refl _) (.cells #[.bool s, .slice a l.length c, .int .i64 e] 24)).alloc (by simp) (.cells #[.bool false, .slice none 0 0, .int .i64 0] 24)).trans (hb.mono (by simp; omega))
    have k0 : w1.cell? ⟨w.heap.size, 0, none⟩ = some (.bool s) := by rw [hb.cell (by simp; omega)]; simp
    have k1 : w1.cell? ⟨w.heap.size, 1, none⟩ = some (.slice a l.length c) := by rw [hb.cell (by simp; omega)]; simp
    have k2 : w1.cell? ⟨w.heap.size, 2, none⟩ = some (.int .i64 e) := by rw [hb.cell (by simp; omega)]; simp
    have k3 : ∀ j, j < 3 → ∃ x, w1.cell? ⟨w.heap.size + 1, j, none⟩ = some x := fun j hj => ⟨(#[Value.bool false, .slice none 0 0, .int .i64 0])[j]'(by simpa using hj), by rw [hb.cell (by simp)]; simp⟩
    have k6 : ∀ j, w1.frozen? ⟨w.heap.size + 1, j, none⟩ = false := fun j => by rw [hb.frozen (by simp)]; simp
    clear hb hc hf
    have K3 := Lib.hid k3; have K6 := Lib.hid k6
    clear k3 k6
    go_wp2_with fail
    go_region_held3 (fun w' => w'.cell? ⟨w.heap.size, 0, none⟩ = some (.bool s) ∧ w'.cell? ⟨w.heap.size, 1, none⟩ = some (.slice a l.length c) ∧ w'.cell? ⟨w.heap.size, 2, none⟩ = some (.int .i64 e)) (first | go_keep | exact ⟨j0, j1, j2⟩ | exact ⟨i0, i1, i2⟩)
      (first
        | (go_at_call 34; refine (HN.out _ bb.drew).mono ?_; rintro e w2 ⟨a1, c1, rfl, ho1, hb1⟩; have bb2 := bb.drew.trans (hb1.mono bb.size); have j0 : w2.cell? ⟨w.heap.size, 0, none⟩ = some (.bool s) := (by rw [hb1.cell (lt_of_cell k0)]; exact k0); have j1 : w2.cell? ⟨w.heap.size, 1, none⟩ = some (.slice a l.length c) := (by rw [hb1.cell (lt_of_cell k1)]; exact k1); have j2 : w2.cell? ⟨w.heap.size, 2, none⟩ = some (.int .i64 e) := (by rw [hb1.cell (lt_of_cell k2)]; exact k2))
        | (go_at_call 33; refine (HTL.out a1 c1 _ ho1.rd (htab.below bb2)).mono ?_; rintro e w3 ⟨a3, c3, rfl, hr3, hb3⟩; have i0 : w3.cell? ⟨w.heap.size, 0, none⟩ = some (.bool s) := (by rw [hb3.cell (lt_of_cell j0)]; exact j0); have i1 : w3.cell? ⟨w.heap.size, 1, none⟩ = some (.slice a l.length c) := (by rw [hb3.cell (lt_of_cell j1)]; exact j1); have i2 : w3.cell? ⟨w.heap.size, 2, none⟩ = some (.int .i64 e) := (by rw [hb3.cell (lt_of_cell j2)]; exact j2); obtain ⟨o0, o1, o2, hofr⟩ := res3 (w1 := w1.drew) K3.out K6.out hb1 hb3; obtain ⟨x0, i3⟩ := o0; obtain ⟨x1, i4⟩ := o1; obtain ⟨x2, i5⟩ := o2))
    have hg1 : w.heap.size + 1 < w2.heap.size := Nat.lt_of_lt_of_le (lt_of_cell (K3.out 0 (by omega)).choose_spec) hb1.size
    have ap := hr3.apart hg1
    have bb3 := bb2.trans (hb3.mono bb2.size)
    have hown := hr3.mono bb2.size
    clear hr3 hb3 hb1
    go_wp2
    refine bodyPost_ret (v := .tuple #[.agg #[.bool (tellA s (vl 1000000000 l) e).p.neg, .slice a3 (dg 1000000000 (tellA s (vl 1000000000 l) e).p.m).length c3, .int .i64 (tellA s (vl 1000000000 l) e).p.e], .int .i64 ((tellA s (vl 1000000000 l) e).err : Nat)]) (by simp [results, Tryd.results13, go_sem, i3, i4, i5]) rfl ?_
    exact ⟨a3, c3, rfl, ((hown.setFar ap _ _).setFar ap _ _).setFar ap _ _, ((bb3.setCell (Nat.le_succ _) _).setCell (Nat.le_succ _) _).setCell (Nat.le_succ _) _⟩
end Go.Proofs.YtofeckdhhaoobaaDoor
