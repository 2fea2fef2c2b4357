/- Texts of numbers by the document's cases. Nothing of the program. -/
import Derived.Test.YtofeckdhhaoobaaDoorDecX
import Derived.Test.YtofeckdhhaoobaaDoorDecO
namespace Go.Proofs.YtofeckdhhaoobaaDoor
open Go.RowKit LM

theorem wos_1 {D : List UInt8} {e : Int} (h0 : 0 ≤ e) (h : e + D.length - 1 ≤ 20) : wos D e = D ++ List.replicate e.toNat 48 := by
  unfold wos; rw [if_pos ⟨h0, h⟩]
theorem wos_2 {D : List UInt8} {e : Int} (h0 : e < 0) (h : 0 ≤ e + D.length - 1) : wos D e = D.take (e + D.length).toNat ++ 46 :: D.drop (e + D.length).toNat := by
  unfold wos
  rw [if_neg (by omega), if_pos ⟨h0, by omega⟩]
  unfold wpt
  rw [show (-e).toNat + 1 - D.length = 0 by omega]
  simp only [List.replicate_zero, List.nil_append]
  rw [show D.length - (-e).toNat = (e + D.length).toNat by omega]
theorem wos_3 {D : List UInt8} {e : Int} (h0 : e < 0) (h : e + D.length - 1 < 0) (h7 : -7 ≤ e + D.length - 1) : wos D e = [48, 46] ++ List.replicate (-(e + D.length - 1) - 1).toNat 48 ++ D := by
  unfold wos
  rw [if_neg (by omega), if_pos ⟨h0, h7⟩]
  unfold wpt
  obtain ⟨k, hk⟩ : ∃ k, (-e).toNat + 1 - D.length = k + 1 := ⟨(-e).toNat - D.length, by omega⟩
  rw [hk]
  have hl : (List.replicate (k + 1) (48 : UInt8) ++ D).length - (-e).toNat = 1 := by simp; omega
  simp only [hl]
  rw [List.replicate_succ, show (-(e + D.length - 1) - 1).toNat = k by omega]
  simp
theorem wos_4 {D : List UInt8} {e : Int} (h1 : ¬ (0 ≤ e ∧ e + D.length - 1 ≤ 20)) (h2 : ¬ (e < 0 ∧ -7 ≤ e + D.length - 1)) : wos D e = wpow D (e + D.length - 1) := by
  unfold wos; rw [if_neg h1, if_neg h2]
theorem wpow_one {D : List UInt8} {h : Int} (h1 : D.length ≤ 1) : wpow D h = D.take 1 ++ 101 :: Lib.itoa h := by
  unfold wpow; rw [if_neg (by omega)]; simp
theorem wpow_more {D : List UInt8} {h : Int} (h1 : 1 < D.length) : wpow D h = D.take 1 ++ 46 :: D.drop 1 ++ 101 :: Lib.itoa h := by
  unfold wpow; rw [if_pos h1]
end Go.Proofs.YtofeckdhhaoobaaDoor
