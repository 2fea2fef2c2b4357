/- quote: written walked. -/
import Derived.Test.YtjjacffacmpopaaDoorQuoG
import Derived.Test.YtjjacffacmpopaaDoorUtfH
import Derived.Test.YtjjacffacmpopaaDoorUtfR2
namespace Go.Proofs.YtjjacffacmpopaaDoor
open Go.RowKit UM QM

def wrt (asc : Bool) (ps : List Nat) : List Nat := [34] ++ ps.flatMap (pieceW asc) ++ [34]
theorem pieceW_len (asc : Bool) (p : Nat) : (pieceW asc p).length ≤ 12 := by
  have h := (en_pos p).2
  unfold pieceW
  repeat' split
  all_goals simp [uni, hx4]
  rw [enc_len]; omega
theorem flat_len (asc : Bool) : ∀ l : List Nat, (l.flatMap (pieceW asc)).length ≤ 12 * l.length
  | [] => by simp
  | p :: l => by
    have h1 := flat_len asc l
    have h2 := pieceW_len asc p
    rw [List.flatMap_cons, List.length_append, List.length_cons]; omega
theorem L2 {asc : Bool} {ps done todo L : List Nat} {n : Nat} (h : ps = done ++ todo) (hL : L = [34] ++ done.flatMap (pieceW asc)) (hx : ps.length ≤ n) (hn : n ≤ 1000000000000) : L.length ≤ 20000000000000 := by
  have := flat_len asc done
  rw [h, List.length_append] at hx
  rw [hL, List.length_append, List.length_singleton]; omega
theorem hxd_lo (d : Nat) (h : d < 16) : hxd d < 256 := by unfold hxd; split <;> omega
theorem uni_lo (u : Nat) : ∀ x ∈ uni u, x < 256 := by
  intro x hx
  simp only [uni, hx4, List.cons_append, List.nil_append, List.mem_cons, List.not_mem_nil, or_false] at hx
  rcases hx with rfl | rfl | rfl | rfl | rfl | rfl
  · decide
  · decide
  all_goals exact hxd_lo _ (Nat.mod_lt _ (by decide))
theorem letF_lo (p : Nat) : letF p < 256 := by
  unfold letF
  repeat' split
  all_goals decide
theorem pieceW_lo {asc : Bool} {p : Nat} (hp : Pt p) : ∀ x ∈ pieceW asc p, x < 256 := by
  intro x hx
  unfold pieceW at hx
  have h1 := letF_lo p
  by_cases c1 : letF p ≠ 0
  · rw [if_pos c1] at hx; simp at hx; omega
  rw [if_neg c1] at hx
  by_cases c2 : p < 32 ∨ p = 127
  · rw [if_pos c2] at hx; exact uni_lo _ x hx
  rw [if_neg c2] at hx
  by_cases c3 : p ≤ 127 ∨ asc = false
  · rw [if_pos c3] at hx; exact enc_lo hp.1 x hx
  rw [if_neg c3] at hx
  by_cases c4 : p ≤ 65535
  · rw [if_pos c4] at hx; exact uni_lo _ x hx
  rw [if_neg c4, List.mem_append] at hx
  rcases hx with hx | hx <;> exact uni_lo _ x hx
theorem L3 {asc : Bool} {ps done todo L : List Nat} (h : ps = done ++ todo) (hL : L = [34] ++ done.flatMap (pieceW asc)) (hp : ∀ p ∈ ps, Pt p) : ∀ x ∈ L ++ [34], x < 256 := by
  intro x hx
  rw [hL] at hx
  simp only [List.mem_append, List.mem_singleton, List.mem_flatMap] at hx
  rcases hx with (rfl | ⟨q, hq, hx⟩) | rfl
  · decide
  · exact pieceW_lo (hp q (by rw [h]; exact List.mem_append_left _ hq)) x hx
  · decide
def strLen : Value → Nat
  | .string t => t.size
  | _ => 0
end Go.Proofs.YtjjacffacmpopaaDoor
