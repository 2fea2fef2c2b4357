/- Walk of the law DecTexts. -/
import Derived.Test.YtofeckdhhaoobaaDoorDecU
import Derived.Test.YtofeckdhhaoobaaDoorDecL
import Derived.Test.YtofeckdhhaoobaaDoorDecYt
namespace Go.Proofs.YtofeckdhhaoobaaDoor
open Go.RowKit LM

set_option maxHeartbeats 8000000 in
set_option maxRecDepth 20000 in
theorem texts_main (s : Bool) (a : Option Addr) (c : Nat) (l : List Nat) (e : Int) (w : World) (hl : l.length ≤ 9223372036854775807) (hlo : Lo 4294967296 l) (hrd : Rd w .u32 a l) (htab : Tab w) :
    Calls Tryd.prog 6 #[.agg #[.bool s, .slice a l.length c, .int .i64 e]] w fun r w' => r = .returned (.bool true) ∧ Below w.heap.size w w' := by
  go_enter Tryd.func6, Tryd.ntmps6
  have hb0 := (Below.refl w.heap.size w).alloc (Nat.le_refl _) (.cells #[.bool s, .slice a l.length c, .int .i64 e] 24)
  have k0 : (w.alloc (.cells #[.bool s, .slice a l.length c, .int .i64 e] 24)).cell? ⟨w.heap.size, 0, none⟩ = some (.bool s) := by simp
  have k1 : (w.alloc (.cells #[.bool s, .slice a l.length c, .int .i64 e] 24)).cell? ⟨w.heap.size, 1, none⟩ = some (.slice a l.length c) := by simp
  have k2 : (w.alloc (.cells #[.bool s, .slice a l.length c, .int .i64 e] 24)).cell? ⟨w.heap.size, 2, none⟩ = some (.int .i64 e) := by simp
  go_wp2_with fail
  refine (shown_any _ (htab.below hb0)).mono ?_
  rintro r w1 ⟨rfl, hb1⟩
  have b1 := hb0.trans (hb1.mono hb0.size)
  have i0 := cellB k0 hb1
  have i1 := cellB k1 hb1
  have i2 := cellB k2 hb1
  clear hb0 hb1 k0 k1 k2
  have hT := fun W hb => DText_any s a c l e W hl hlo (hrd.below' (w' := W) hb (Nat.le_refl _)) (htab.below hb)
  have hR := fun W hb => RTextD_any s a c l e W hl hlo (hrd.below' (w' := W) hb (Nat.le_refl _))
  generalize normA l.length s (vl 1000000000 l) e = A at *
  generalize txt (wtx A) = t at *
  generalize A.err = n at *
  have HT := Lib.hid hT; have HR := Lib.hid hR
  clear hT hR hlo hrd htab
  go_wp2_with fail
  refine (HT.out _ b1).mono ?_
  rintro r w2 ⟨rfl, hb2⟩
  have b2 := b1.trans (hb2.mono b1.size)
  have k0 := cellB i0 hb2
  have k1 := cellB i1 hb2
  have k2 := cellB i2 hb2
  clear hb2 b1 i0 i1 i2
  go_wp2_with fail
  refine (HR.out _ b2).mono ?_
  rintro r w3 ⟨rfl, hb3⟩
  have b3 := b2.trans (hb3.mono b2.size)
  clear hb3 b2 k0 k1 k2
  go_wp2
  go_ret
  exact ⟨rfl, b3⟩

theorem texts_walk {s : Bool} {a : Option Addr} {n ca : Nat} {e : Int} (w : World) (htab : Tab w) (ha : IsRow w a n ca) (_ : (Lit.int .i64 e).wf = true) :
    Calls Tryd.prog 6 #[.agg #[.bool s, .slice a n ca, .int .i64 e]] w fun r w' => r = .returned (.bool true) ∧ Below w.heap.size w w' := by
  obtain ⟨l, rfl, lo, rd, hm⟩ := ha
  unfold maxLen at hm
  exact texts_main s a ca l e w (by omega) lo rd htab
end Go.Proofs.YtofeckdhhaoobaaDoor
