/- parens: the document's Closes, Enclose, Size, Child: plain mathematics. -/
import Derived.Test.YtelagemniheeoaaDoorParZ
namespace Go.Proofs.YtelagemniheeoaaDoor
open BM

/-- the stack of what is open, the last one ahead -/
def Stk (f : Nat → Bool) : Nat → List Nat → Prop
  | _, [] => True
  | i, t :: st => t < i ∧ f t = true ∧ ex f i = ex f t + 1 ∧ (∀ q, t < q → q ≤ i → ex f t < ex f q) ∧ Stk f t st
theorem Stk.mem {f : Nat → Bool} : ∀ {st : List Nat} {i j : Nat}, Stk f i st → j ∈ st → j < i ∧ f j = true ∧ ∀ q, j < q → q ≤ i → ex f j < ex f q
  | t :: st, i, j, h, hj => by
    obtain ⟨h1, h2, h3, h4, h5⟩ := h
    rcases List.mem_cons.1 hj with r | r
    · subst r; exact ⟨h1, h2, h4⟩
    · obtain ⟨a, b, c⟩ := Stk.mem h5 r
      refine ⟨by omega, b, fun q q1 q2 => ?_⟩
      rcases Nat.lt_or_ge t q with h6 | h6
      · have := h4 q h6 q2; have := c t a (Nat.le_refl _); omega
      · exact c q q1 h6
theorem Stk.move {f : Nat → Bool} {st : List Nat} {t i : Nat} (h : Stk f t st) (hi : t < i) (he : ex f i = ex f t) (hq : ∀ q, t < q → q ≤ i → ex f t ≤ ex f q) : Stk f i st := by
  cases st with
  | nil => trivial
  | cons s st =>
    obtain ⟨h1, h2, h3, h4, h5⟩ := h
    refine ⟨by omega, h2, by omega, fun q q1 q2 => ?_, h5⟩
    rcases Nat.lt_or_ge t q with h6 | h6
    · have := hq q h6 q2; omega
    · exact h4 q q1 h6
theorem cls_off {f : Nat → Bool} {n i : Nat} (h : f i = false) : cls f n i = -1 := by
  unfold cls opn hasB
  rw [Int.toNat_natCast, h]; simp
/-- what has been told of the closings ahead of i -/
structure Clo (f : Nat → Bool) (n i : Nat) (st : List Nat) (ls : List Int) : Prop where
  len : ls.length = n
  stk : Stk f i st
  val : ∀ j, j < i → (j ∈ st ∧ ls[j]? = some (-1)) ∨ ls[j]? = some (cls f n j)
theorem Clo.start (f : Nat → Bool) (n : Nat) : Clo f n 0 [] (List.replicate n 0) := ⟨by simp, trivial, fun j h => by omega⟩
theorem Clo.push {f : Nat → Bool} {n i : Nat} {st : List Nat} {ls : List Int} (h : Clo f n i st ls) (hi : i < n) (hf : f i = true) : Clo f n (i + 1) (i :: st) (ls.set i (-1)) := by
  refine ⟨by simp [h.len], ⟨by omega, hf, ex_on hf, fun q q1 q2 => ?_, h.stk⟩, fun j hj => ?_⟩
  · obtain rfl : q = i + 1 := by omega
    rw [ex_on hf]; omega
  · rcases Nat.eq_or_lt_of_le (Nat.le_of_lt_succ hj) with r | r
    · subst r; left; exact ⟨by simp, by rw [List.getElem?_set_self (by rw [h.len]; exact hi)]⟩
    · rw [List.getElem?_set_ne (by omega)]
      rcases h.val j r with ⟨a, b⟩ | a
      · exact Or.inl ⟨List.mem_cons_of_mem _ a, b⟩
      · exact Or.inr a
theorem Clo.skip {f : Nat → Bool} {n i : Nat} {ls : List Int} (h : Clo f n i [] ls) (hi : i < n) (hf : f i = false) : Clo f n (i + 1) [] (ls.set i (-1)) := by
  refine ⟨by simp [h.len], trivial, fun j hj => ?_⟩
  rcases Nat.eq_or_lt_of_le (Nat.le_of_lt_succ hj) with r | r
  · subst r; right; rw [List.getElem?_set_self (by rw [h.len]; exact hi), cls_off hf]
  · rw [List.getElem?_set_ne (by omega)]; exact h.val j r
theorem Clo.pop {f : Nat → Bool} {n i t : Nat} {st : List Nat} {ls : List Int} (h : Clo f n i (t :: st) ls) (hi : i < n) (hf : f i = false) : Clo f n (i + 1) st ((ls.set i (-1)).set t (i : Int)) := by
  obtain ⟨h1, h2, h3, h4, h5⟩ := h.stk
  have h6 := ex_off hf
  have hC : Cls f n t i := ⟨h1, hi, hf, h2, by omega, fun q q1 q2 => h4 q q1 q2⟩
  refine ⟨by simp [h.len], h5.move (by omega) (by omega) (fun q q1 q2 => ?_), fun j hj => ?_⟩
  · rcases Nat.eq_or_lt_of_le q2 with r | r
    · subst r; omega
    · have := h4 q q1 (by omega); omega
  · by_cases hjt : t = j
    · subst hjt
      right; rw [List.getElem?_set_self (by rw [List.length_set, h.len]; omega), hC.is]
    · rw [List.getElem?_set_ne hjt]
      rcases Nat.eq_or_lt_of_le (Nat.le_of_lt_succ hj) with r | r
      · subst r; right; rw [List.getElem?_set_self (by rw [h.len]; exact hi), cls_off hf]
      · rw [List.getElem?_set_ne (by omega)]
        rcases h.val j r with ⟨a, b⟩ | a
        · rcases List.mem_cons.1 a with e | e
          · exact absurd e.symm hjt
          · exact Or.inl ⟨e, b⟩
        · exact Or.inr a
def clsL (f : Nat → Bool) (n : Nat) : List Int := (List.range n).map (fun j : Nat => cls f n j)
theorem clsL_get {f : Nat → Bool} {n j : Nat} (h : j < n) : (clsL f n)[j]? = some (cls f n j) := by simp [clsL, h]
theorem Clo.done {f : Nat → Bool} {n : Nat} {st : List Nat} {ls : List Int} (h : Clo f n n st ls) : ls = clsL f n := by
  apply List.ext_getElem?
  intro j
  by_cases hj : j < n
  · rw [clsL_get hj]
    rcases h.val j hj with ⟨a, b⟩ | a
    · obtain ⟨_, c, d⟩ := h.stk.mem a
      rw [b]
      rcases cls_spec hj c with ⟨e, _⟩ | ⟨c', e, e2⟩
      · rw [e]
      · have := d (c' + 1) (by have := e2.lt; omega) e2.ltn
        have := e2.eq
        omega
    · exact a
  · rw [List.getElem?_eq_none (by rw [h.len]; omega), List.getElem?_eq_none (by simp [clsL]; omega)]
/-- where what stands at i ends -/
def enE (f : Nat → Bool) (n i : Nat) : Int := if (i : Int) < cls f n i then cls f n i else i
theorem enE_ge (f : Nat → Bool) (n i : Nat) : (i : Int) ≤ enE f n i := by unfold enE; split <;> omega
theorem enc_low {f : Nat → Bool} {n i k d : Nat} (h : Cls f n k d) (hk : k < i) (hd : i < d) : ex f k < min (ex f i) (ex f (i + 1)) := by
  have := h.more i hk (by omega)
  have := h.more (i + 1) (by omega) (by omega)
  omega
theorem enc_high {f : Nat → Bool} {n i p c : Nat} (hi : i < n) (h : Cls f n p c) (hp : p < i) (he : ex f p < min (ex f i) (ex f (i + 1))) (hr : ∀ r, p < r → r < i → min (ex f i) (ex f (i + 1)) - 1 < ex f r) : enE f n i < c := by
  have hl := h.lt
  have hq := h.eq
  have h1 : i < c := by
    rcases Nat.lt_or_ge i c with r | r
    · exact r
    · rcases Nat.lt_or_ge (c + 1) i with r2 | r2
      · have := hr (c + 1) (by omega) r2; omega
      · rcases Nat.eq_or_lt_of_le r2 with r3 | r3
        · rw [r3] at he; omega
        · obtain rfl : c = i := by omega
          omega
  unfold enE
  split
  · rename_i h2
    rcases cls_bd f n i with h3 | ⟨_, _, _, h4⟩
    · omega
    · have hf : f i = true := by obtain ⟨k, e, _, e2⟩ := opn_nat h4; rw [show i = k by omega]; exact e2
      rcases cls_spec hi hf with ⟨h5, _⟩ | ⟨c', h5, h6⟩
      · omega
      · rw [h5]
        have h7 := h6.eq
        rcases Nat.lt_trichotomy c c' with r | r | r
        · have := h6.more (c + 1) (by omega) (by omega); omega
        · subst r; omega
        · omega
  · omega
theorem seek_on {f : Nat → Bool} {i p : Nat} (hp : p < i) (he : ex f p ≤ min (ex f i) (ex f (i + 1)) - 1) (hr : ∀ r, p < r → r < i → min (ex f i) (ex f (i + 1)) - 1 < ex f r) : f p = true := by
  rcases ex_step f p with ⟨_, h⟩ | ⟨h, _⟩
  · exact h
  · rcases Nat.lt_or_ge (p + 1) i with r | r
    · have := hr (p + 1) (by omega) r; omega
    · obtain rfl : p + 1 = i := by omega
      omega
theorem enq_is (f : Nat → Bool) (n i : Nat) : enq f n i = seek (ex f) (min (ex f i) (ex f (i + 1)) - 1) (List.range' 0 i).reverse 0 := by unfold enq; rw [rst_down]
theorem enc_in {f : Nat → Bool} {n i : Nat} (hi : i < n) : enc f n i = if cls f n (enq f n i) < 0 then -1 else enq f n i := by
  have hh : hasB n (i : Int) = true := by unfold hasB; simp; omega
  unfold enc
  rw [hh, Int.toNat_natCast]; rfl
theorem enc_is {f : Nat → Bool} {n i k : Nat} (hi : i < n) (hk : k < i) (hf : f k = true) (hd : enE f n i < cls f n k) (hno : ∀ j : Nat, k < j → j < i → f j = true → cls f n j ≤ enE f n i) : enc f n i = k := by
  have hge := enE_ge f n i
  rcases cls_spec (show k < n by omega) hf with ⟨h, _⟩ | ⟨d, h, hC⟩
  · omega
  · have hdi : i < d := by omega
    have hlow := enc_low hC hk hdi
    rw [enc_in hi, enq_is]
    rcases seek0_down (ex f) (min (ex f i) (ex f (i + 1)) - 1) i with ⟨_, b⟩ | ⟨p, a, b, e, r⟩
    · have := b k hk; omega
    · rw [a]
      have hon := seek_on b e r
      rcases Nat.lt_trichotomy k p with h1 | h1 | h1
      · exfalso
        rcases cls_spec (show p < n by omega) hon with ⟨_, h3⟩ | ⟨c, h2, h3⟩
        · have := h3 (d + 1) (by omega) hC.ltn
          have := hC.more p h1 (by omega)
          have := hC.eq
          omega
        · have := enc_high hi h3 b (by omega) r
          have := hno p h1 b hon
          omega
      · subst h1; rw [h, if_neg (by omega)]
      · have := r k h1 hk; omega
theorem enc_not {f : Nat → Bool} {n i : Nat} (hi : i < n) (hno : ∀ j : Nat, j < i → f j = true → cls f n j ≤ enE f n i) : enc f n i = -1 := by
  rw [enc_in hi, enq_is]
  rcases seek0_down (ex f) (min (ex f i) (ex f (i + 1)) - 1) i with ⟨a, _⟩ | ⟨p, a, b, e, r⟩
  · rw [a]; split <;> rfl
  · rw [a]
    have hon := seek_on b e r
    rcases cls_spec (show p < n by omega) hon with ⟨h2, _⟩ | ⟨c, h2, h3⟩
    · rw [h2]; rfl
    · have := enc_high hi h3 b (by omega) r
      have := hno p b hon
      omega
/-- how many open from one place to another -/
theorem siz_rk {f : Nat → Bool} {n i c : Nat} (h : Cls f n i c) : siz f n i = (rk f c : Int) - rk f i := by
  rw [siz_is h]
  have h1 := h.eq
  have h2 := ex_off h.off
  unfold ex at h1 h2
  omega
/-- what stands within a child is no child -/
theorem kid_not {f : Nat → Bool} {n i c k t p q : Nat} (h : Cls f n i c) (hk : Kid f i c k t) (hC : Cls f n t p) (h1 : t < q) (h2 : q ≤ p) (hf : f q = true) : enc f n q ≠ i := by
  have h3 := hk.lo
  have hqn : q < n := by have := hC.ltn; omega
  rw [enc_in hqn, enq_is]
  have hm := hC.more q h1 h2
  have hon := ex_on hf
  have hat := hk.at_
  rcases seek0_down (ex f) (min (ex f q) (ex f (q + 1)) - 1) q with ⟨a, _⟩ | ⟨s, a, b, e, r⟩
  · rw [a]; split <;> omega
  · rw [a]
    have : s ≠ i := by
      intro hs
      have := r t (by omega) h1
      omega
    split <;> omega
theorem kid_more {f : Nat → Bool} {n i c k m : Nat} (h : Cls f n i c) (hk : Kid f i c k c) (hm : k ≤ m) : chl f n i m = -1 := by
  rcases Nat.eq_or_lt_of_le hm with r | r
  · subst r; rw [hk.chl h, if_pos rfl]
  · have h1 := hk.lo
    have h3 := h.ltn
    have hq : chq f n i m = (c + 1 : Nat) := by
      unfold chq
      rw [show (i : Int) + 1 = ((i + 1 : Nat) : Int) from rfl, rst_up, range_split (b := c) (by omega) (by omega)]
      have hn : ¬ hit (ex f) (ex f i + 1) m (List.range' (i + 1) (c - (i + 1))) := by
        rintro (⟨p, hp, hl⟩ | hl)
        · rw [List.mem_range'_1] at hp
          have := h.more p (by omega) (by omega)
          omega
        · rw [hk.cnt] at hl; omega
      rw [seek_miss _ _ _ hn, hk.cnt, show n + 1 - c = (n - 1 - c) + 1 + 1 by omega, List.range'_succ, List.range'_succ]
      have e1 := hk.at_
      have e2 := h.eq
      unfold seek
      have s1 : stop (ex f i + 1) (m - k) (ex f c) 1 = false := by
        rw [Bool.eq_false_iff]; intro hs
        rcases (stop_iff _ _ _ _).1 hs with h5 | ⟨_, h5⟩ <;> omega
      rw [s1]
      simp only [Bool.false_eq_true, if_false]
      unfold seek
      have s2 : stop (ex f i + 1) (nxt (ex f i + 1) (m - k) (ex f c) 1) (ex f (c + 1)) 1 = true := (stop_iff _ _ _ _).2 (Or.inl (by omega))
      rw [s2]
      rfl
    unfold chl
    rw [h.is, Int.toNat_natCast, Int.toNat_natCast, hq, if_neg (by omega), if_pos (by omega)]
theorem chl_none {f : Nat → Bool} {n : Nat} {i k : Int} (h : cls f n i < 0 ∨ k < 0) : chl f n i k = -1 := by unfold chl; rw [if_pos h]
/-- where the search for a child has come to -/
structure Kds (f : Nat → Bool) (n i c K : Nat) (at_ : Nat) (k : Int) : Prop where
  is : ∃ m t, Kid f i c m t ∧ at_ ≤ t ∧ (∀ q, at_ ≤ q → q < t → f q = true → enc f n q ≠ i) ∧ k = (K : Int) - m ∧ m ≤ K
theorem Kds.start {f : Nat → Bool} {n i c K : Nat} (h : Cls f n i c) : Kds f n i c K (i + 1) K :=
  ⟨0, i + 1, Kid.start h, Nat.le_refl _, fun q h1 h2 => by omega, by omega, by omega⟩
theorem Kds.skip {f : Nat → Bool} {n i c K a : Nat} {k : Int} (h : Cls f n i c) (hk : Kds f n i c K a k) (ha : a < c) (hs : f a = true → enc f n a ≠ i) : Kds f n i c K (a + 1) k := by
  obtain ⟨m, t, h1, h2, h3, h4, h5⟩ := hk.is
  rcases Nat.eq_or_lt_of_le h2 with r | r
  · subst r
    obtain ⟨p, p1, p2, p3, p4⟩ := Kid.step h h1 ha
    exact absurd p3 (hs p1.on)
  · exact ⟨m, t, h1, r, fun q q1 q2 => h3 q (by omega) q2, h4, h5⟩
theorem Kds.child {f : Nat → Bool} {n i c K a : Nat} {k : Int} (h : Cls f n i c) (hk : Kds f n i c K a k) (ha : a < c) (hf : f a = true) (he : enc f n a = i) : (k = 0 → chl f n i K = a) ∧ (k ≠ 0 → Kds f n i c K (a + 1) (k - 1)) := by
  obtain ⟨m, t, h1, h2, h3, h4, h5⟩ := hk.is
  rcases Nat.eq_or_lt_of_le h2 with r | r
  · subst r
    refine ⟨fun h0 => ?_, fun h0 => ?_⟩
    · obtain rfl : m = K := by omega
      rw [h1.chl h, if_neg (by omega)]
    · obtain ⟨p, p1, p2, p3, p4⟩ := Kid.step h h1 ha
      have := p1.lt
      exact ⟨m + 1, p + 1, p4, by omega, fun q q1 q2 q3 => kid_not h h1 p1 (by omega) (by omega) q3, by omega, by omega⟩
  · exact absurd he (h3 a (Nat.le_refl _) r hf)
theorem Kds.over {f : Nat → Bool} {n i c K : Nat} {k : Int} (h : Cls f n i c) (hk : Kds f n i c K c k) : chl f n i K = -1 := by
  obtain ⟨m, t, h1, h2, h3, h4, h5⟩ := hk.is
  obtain rfl : t = c := Nat.le_antisymm h1.hi h2
  exact kid_more h h1 h5
theorem Kds.nn {f : Nat → Bool} {n i c K a : Nat} {k : Int} (hk : Kds f n i c K a k) : 0 ≤ k ∧ k ≤ K := by
  obtain ⟨m, t, h1, h2, h3, h4, h5⟩ := hk.is
  omega
end Go.Proofs.YtelagemniheeoaaDoor
