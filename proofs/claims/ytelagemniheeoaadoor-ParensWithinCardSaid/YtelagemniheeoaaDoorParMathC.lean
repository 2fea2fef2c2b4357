/- Levels, made place by place, or block by block: plain mathematics. -/
import Derived.Test.YtelagemniheeoaaDoorParMathB
namespace Go.Proofs.YtelagemniheeoaaDoor.BM

/-- places of one excess reckoned in -/
def adP (l : Int) (m : Nat) (x : Int) (k : Nat) : Int × Nat := if m = 0 ∨ x < l then (x, k) else if x = l then (l, m + k) else (l, m)
theorem adP_zero (l x : Int) (k : Nat) : adP l 0 x k = (x, k) := by simp [adP]
theorem adP_agg {g : Nat → Int} {ps qs : List Nat} {l x : Int} {m k : Nat} (h : IsAgg g ps l m) (h2 : IsAgg g qs x k) : IsAgg g (ps ++ qs) (adP l m x k).1 (adP l m x k).2 := by
  have hm := h.2.2
  unfold adP
  by_cases h1 : x < l
  · rw [if_pos (Or.inr h1)]; exact agg_less h h2 h1
  · rw [if_neg (by omega)]
    by_cases h3 : x = l
    · subst h3
      rw [if_pos rfl]; exact agg_same h h2
    · rw [if_neg h3]; exact agg_more h h2 (by omega)
/-- what a level tells when p places are reckoned in -/
def Cov (g : Nat → Int) (n d : Nat) (ls : List Int) (ms : List Nat) (p : Nat) : Prop :=
  ls.length = n / 2 ^ sh d + 1 ∧ ms.length = n / 2 ^ sh d + 1 ∧ ∀ j l m, ls[j]? = some l → ms[j]? = some m → (lo d j < p → IsAgg g (List.range' (lo d j) (min (hi_ n d j) p - lo d j)) l m) ∧ (p ≤ lo d j → m = 0)
theorem Cov.start (g : Nat → Int) (n d : Nat) : Cov g n d (List.replicate (n / 2 ^ sh d + 1) 0) (List.replicate (n / 2 ^ sh d + 1) 0) 0 := by
  refine ⟨by simp, by simp, fun j l m h1 h2 => ⟨fun h => by omega, fun _ => ?_⟩⟩
  have := List.getElem?_replicate (a := (0 : Nat)) (n := n / 2 ^ sh d + 1) (i := j)
  rw [this] at h2
  split at h2
  · simpa using h2.symm
  · cases h2
theorem hi_lo (n d j : Nat) : hi_ n d j ≤ lo d (j + 1) := by rw [hi_eq, lo_succ]; omega
theorem Cov.step {g : Nat → Int} {n d : Nat} {ls : List Int} {ms : List Nat} {p p' j : Nat} {l : Int} {m : Nat} {x : Int} {k : Nat} (h : Cov g n d ls ms p) (hl : ls[j]? = some l) (hm : ms[j]? = some m) (h1 : lo d j ≤ p) (h2 : p < p') (h3 : p' ≤ hi_ n d j) (hx : IsAgg g (List.range' p (p' - p)) x k) :
    Cov g n d (ls.set j (adP l m x k).1) (ms.set j (adP l m x k).2) p' := by
  obtain ⟨a, b, c⟩ := h
  refine ⟨by simpa using a, by simpa using b, fun i l' m' hi1 hi2 => ?_⟩
  have hhl := hi_lo n d j
  by_cases hij : j = i
  · subst hij
    have hjl : j < ls.length := (List.getElem?_eq_some_iff.1 hl).1
    have hjm : j < ms.length := (List.getElem?_eq_some_iff.1 hm).1
    rw [List.getElem?_set_self hjl] at hi1
    rw [List.getElem?_set_self hjm] at hi2
    simp only [Option.some.injEq] at hi1 hi2
    subst hi1 hi2
    obtain ⟨c1, c2⟩ := c j l m hl hm
    refine ⟨fun _ => ?_, fun h => by omega⟩
    rcases Nat.eq_or_lt_of_le h1 with e | e
    · have := c2 (by omega)
      subst this
      rw [adP_zero, e, show min (hi_ n d j) p' = p' by omega]
      exact hx
    · have hag := c1 e
      rw [show min (hi_ n d j) p = p by omega] at hag
      rw [show min (hi_ n d j) p' = p' by omega, range_split h1 (Nat.le_of_lt h2)]
      exact adP_agg hag hx
  · rw [List.getElem?_set_ne hij] at hi1 hi2
    obtain ⟨c1, c2⟩ := c i l' m' hi1 hi2
    rcases Nat.lt_or_gt_of_ne hij with hlt | hgt
    · have := lo_mono d (show j + 1 ≤ i from hlt)
      exact ⟨fun h => by omega, fun _ => c2 (by omega)⟩
    · have h4 := lo_mono d (show i + 1 ≤ j from hgt)
      have h5 := hi_lo n d i
      have h6 := lo_succ d i
      have h7 := sh_pos d
      refine ⟨fun _ => ?_, fun h => by omega⟩
      have := c1 (by omega)
      rw [show min (hi_ n d i) p = hi_ n d i by omega] at this
      rw [show min (hi_ n d i) p' = hi_ n d i by omega]
      exact this
theorem Cov.done {g : Nat → Int} {n d : Nat} {ls : List Int} {ms : List Nat} (h : Cov g n d ls ms (n + 1)) : ls.length = n / 2 ^ sh d + 1 ∧ ms.length = n / 2 ^ sh d + 1 ∧ ∀ i l m, ls[i]? = some l → ms[i]? = some m → IsAgg g (List.range' (lo d i) (hi_ n d i - lo d i)) l m := by
  obtain ⟨a, b, c⟩ := h
  refine ⟨a, b, fun i l m h1 h2 => ?_⟩
  have hi' : i < n / 2 ^ sh d + 1 := by rw [← a]; exact (List.getElem?_eq_some_iff.1 h1).1
  have h3 := lo_cn.2 hi'
  have := (c i l m h1 h2).1 (by omega)
  rw [show min (hi_ n d i) (n + 1) = hi_ n d i by rw [hi_eq]; omega] at this
  exact this
theorem set_same {α : Type} : ∀ {ls : List α} {j : Nat} {l : α}, ls[j]? = some l → ls.set j l = ls
  | [], _, _, h => by simp at h
  | a :: t, 0, l, h => by simp at h; subst h; rfl
  | a :: t, j + 1, l, h => by simp at h; simp [set_same h]
theorem cn_get {α : Type} {ls : List α} {c j : Nat} (h : ls.length = c) (hj : j < c) : ∃ l, ls[j]? = some l := ⟨_, List.getElem?_eq_getElem (by omega)⟩
end Go.Proofs.YtelagemniheeoaaDoor.BM
