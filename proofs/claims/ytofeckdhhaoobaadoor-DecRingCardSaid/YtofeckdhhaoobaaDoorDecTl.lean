/- Walk of the document's Tell. -/
import Derived.Test.YtofeckdhhaoobaaDoorDecO
namespace Go.Proofs.YtofeckdhhaoobaaDoor
open Go.RowKit LM

def tellP (p : Pl) : Ans := if inR p = true then ⟨0, p⟩ else ⟨3, zP⟩
theorem tellA_P (s : Bool) (v : Nat) (e : Int) : tellA s v e = tellP (pl s v e) := rfl

set_option maxHeartbeats 8000000 in
set_option maxRecDepth 20000 in
theorem Tell_any (p : Pl) (a : Option Addr) (c : Nat) (w : World) (hp : PlainP p) (hl : dl p.m ≤ 1000000) (he : -1000000 ≤ p.e) (he2 : p.e ≤ 1000000) (hr : RdC w a c p.m) :
    Calls Tryd.prog 47 #[.agg #[.bool p.neg, .slice a (dg 10 p.m).length c, .int .i64 p.e]] w (ResN (tellP p) w) := by
  obtain ⟨s, m, e⟩ := p
  simp only at hl he he2 hr ⊢
  have hF := fun W => Fits_any s a c m e W hl he he2 hp
  have hT := fun W hb => ToD_any ⟨s, m, e⟩ a c W hl (hr.below (w' := W) hb)
  simp only at hT
  have hdl : dl m = (dg 10 m).length := rfl
  rw [hdl] at hF
  have HT := Lib.hid hT
  clear hT hr hp hl hdl he he2
  rcases hin : inR ⟨s, m, e⟩ with _ | _
  · have ht : tellP ⟨s, m, e⟩ = ⟨3, zP⟩ := by unfold tellP; rw [hin, if_neg Bool.false_ne_true]
    rw [hin] at hF
    rw [ht]
    have HF := Lib.hid hF
    clear hF ht hin
    generalize (dg 10 m).length = n at *
    go_enter Tryd.func47, Tryd.ntmps47
    go_wp2_with fail
    refine (HF.out _).mono ?_
    rintro r w2 ⟨rfl, hb1⟩
    have bb := (((Below.refl w.heap.size w).alloc (Nat.le_refl _) (.cells #[.bool s, .slice a n c, .int .i64 e] 56)).alloc (by simp) (.cells #[.bool false, .slice none 0 0, .int .i64 0] 24)).trans (hb1.mono (by simp; omega))
    have u0 : w2.cell? ⟨w.heap.size + 1, 0, none⟩ = some (.bool false) := by rw [hb1.cell (by simp)]; simp
    have u1 : w2.cell? ⟨w.heap.size + 1, 1, none⟩ = some (.slice none 0 0) := by rw [hb1.cell (by simp)]; simp
    have u2 : w2.cell? ⟨w.heap.size + 1, 2, none⟩ = some (.int .i64 0) := by rw [hb1.cell (by simp)]; simp
    have uf : ∀ j, w2.frozen? ⟨w.heap.size + 1, j, none⟩ = false := fun j => by rw [hb1.frozen (by simp)]; simp
    obtain ⟨z0, z1, z2⟩ := valRes u0 u1 u2 (.bool false) (.slice none 0 0) (.int .i64 0) (.cells #[.bool false, .slice none 0 0, .int .i64 0] 24)
    clear hb1
    go_wp2
    refine bodyPost_ret (v := .tuple #[.agg #[.bool false, .slice none 0 0, .int .i64 0], .int .i64 3]) (by simp [results, Tryd.results47, go_sem, z0, z1, z2, u0, u1, u2]) rfl ?_
    refine ⟨none, 0, ?_, ?_, ?_⟩
    · show _ = Ending.returned (.tuple #[.agg #[.bool false, .slice none (dg 1000000000 0).length 0, .int .i64 0], .int .i64 3])
      rw [dg_zero]; rfl
    · show Own _ _ _ .u32 none 0 (dg 1000000000 0); rw [dg_zero]; exact Own.nilNone _ _ _ _
    · first
        | exact (((bb.setCell (Nat.le_succ _) _).setCell (Nat.le_succ _) _).setCell (Nat.le_succ _) _).alloc (by simpa using bb.size) _
        | exact (((bb.setCell (Nat.le_succ _) _).setCell (Nat.le_succ _) _).setCell (Nat.le_succ _) _)
  · have ht : tellP ⟨s, m, e⟩ = ⟨0, ⟨s, m, e⟩⟩ := by unfold tellP; rw [hin, if_pos rfl]
    rw [hin] at hF
    rw [ht]
    have HF := Lib.hid hF
    clear hF ht hin
    obtain ⟨n, hn⟩ : ∃ n, n = (dg 10 m).length := ⟨_, rfl⟩
    rw [← hn] at HF HT ⊢
    clear hn
    go_enter Tryd.func47, Tryd.ntmps47
    go_wp2_with fail
    refine (HF.out _).mono ?_
    rintro r w2 ⟨rfl, hb1⟩
    have bb := (((Below.refl w.heap.size w).alloc (Nat.le_refl _) (.cells #[.bool s, .slice a n c, .int .i64 e] 56)).alloc (by simp) (.cells #[.bool false, .slice none 0 0, .int .i64 0] 24)).trans (hb1.mono (by simp; omega))
    have k0 : w2.cell? ⟨w.heap.size, 0, none⟩ = some (.bool s) := by rw [hb1.cell (by simp; omega)]; simp
    have k1 : w2.cell? ⟨w.heap.size, 1, none⟩ = some (.slice a n c) := by rw [hb1.cell (by simp; omega)]; simp
    have k2 : w2.cell? ⟨w.heap.size, 2, none⟩ = some (.int .i64 e) := by rw [hb1.cell (by simp; omega)]; simp
    have u0 : w2.cell? ⟨w.heap.size + 1, 0, none⟩ = some (.bool false) := by rw [hb1.cell (by simp)]; simp
    have u1 : w2.cell? ⟨w.heap.size + 1, 1, none⟩ = some (.slice none 0 0) := by rw [hb1.cell (by simp)]; simp
    have u2 : w2.cell? ⟨w.heap.size + 1, 2, none⟩ = some (.int .i64 0) := by rw [hb1.cell (by simp)]; simp
    have uf : ∀ j, w2.frozen? ⟨w.heap.size + 1, j, none⟩ = false := fun j => by rw [hb1.frozen (by simp)]; simp
    have m1 : w.heap.size + 1 < w2.heap.size := lt_of_cell u0
    clear hb1
    go_wp2_with fail
    refine (HT.out _ bb).mono ?_
    rintro r w3 ⟨a3, c3, rfl, ho3, hb3⟩
    have t0 := cellB u0 hb3
    have t1 := cellB u1 hb3
    have t2 := cellB u2 hb3
    have tf : ∀ j, w3.frozen? ⟨w.heap.size + 1, j, none⟩ = false := fun j => by rw [hb3.frozen (p := ⟨w.heap.size + 1, j, none⟩) m1]; exact uf j
    have ap := ho3.apart m1
    have hown := ho3.mono bb.size
    have b4 := bb.trans (hb3.mono bb.size)
    clear hb3 ho3 bb u0 u1 u2 uf k0 k1 k2
    go_wp2
    refine bodyPost_ret (v := .tuple #[.agg #[.bool s, .slice a3 (dg 1000000000 m).length c3, .int .i64 e], .int .i64 0]) (by simp [results, Tryd.results47, go_sem, t0, t1, t2]) rfl ?_
    exact ⟨a3, c3, rfl, ((hown.setFar ap _ _).setFar ap _ _).setFar ap _ _, ((b4.setCell (Nat.le_succ _) _).setCell (Nat.le_succ _) _).setCell (Nat.le_succ _) _⟩
end Go.Proofs.YtofeckdhhaoobaaDoor
