/- parens: what Close, Open, Enclose, Child find: plain mathematics. -/
import Derived.Test.YtelagemniheeoaaDoorParR
namespace Go.Proofs.YtelagemniheeoaaDoor
open BM

theorem stop0 (e l : Int) : stop e 0 l 1 = decide (l ≤ e) := by
  rw [Bool.eq_iff_iff, stop_iff, decide_eq_true_iff]; omega
theorem nxt0 (e l : Int) : nxt e 0 l 1 = 0 := by unfold nxt; split <;> omega
/-- the first place, upwards, with no more than that -/
theorem seek0_up (g : Nat → Int) (e : Int) : ∀ (len a : Nat), (seek g e (List.range' a len) 0 = -1 ∧ ∀ q, a ≤ q → q < a + len → e < g q) ∨ ∃ p : Nat, seek g e (List.range' a len) 0 = p ∧ a ≤ p ∧ p < a + len ∧ g p ≤ e ∧ ∀ q, a ≤ q → q < p → e < g q
  | 0, a => Or.inl ⟨rfl, fun q h1 h2 => by omega⟩
  | len + 1, a => by
    rw [List.range'_succ]
    unfold seek
    rw [stop0, nxt0]
    by_cases h : g a ≤ e
    · right
      refine ⟨a, by simp [h], Nat.le_refl _, by omega, h, fun q h1 h2 => by omega⟩
    · simp only [h, decide_false, Bool.false_eq_true, if_false]
      rcases seek0_up g e len (a + 1) with ⟨h1, h2⟩ | ⟨p, h1, h2, h3, h4, h5⟩
      · left
        refine ⟨h1, fun q a1 a2 => ?_⟩
        rcases Nat.eq_or_lt_of_le a1 with e1 | e1
        · subst e1; omega
        · exact h2 q (by omega) (by omega)
      · right
        refine ⟨p, h1, by omega, by omega, h4, fun q a1 a2 => ?_⟩
        rcases Nat.eq_or_lt_of_le a1 with e1 | e1
        · subst e1; omega
        · exact h5 q (by omega) a2
/-- the first place, downwards -/
theorem seek0_down (g : Nat → Int) (e : Int) : ∀ (len : Nat), (seek g e (List.range' 0 len).reverse 0 = -1 ∧ ∀ q, q < len → e < g q) ∨ ∃ p : Nat, seek g e (List.range' 0 len).reverse 0 = p ∧ p < len ∧ g p ≤ e ∧ ∀ q, p < q → q < len → e < g q
  | 0 => Or.inl ⟨rfl, fun q h => by omega⟩
  | len + 1 => by
    have hr : (List.range' 0 (len + 1)).reverse = len :: (List.range' 0 len).reverse := by
      rw [List.range'_concat, List.reverse_append]; simp
    rw [hr]
    unfold seek
    rw [stop0, nxt0]
    by_cases h : g len ≤ e
    · right
      exact ⟨len, by simp [h], by omega, h, fun q h1 h2 => by omega⟩
    · simp only [h, decide_false, Bool.false_eq_true, if_false]
      rcases seek0_down g e len with ⟨h1, h2⟩ | ⟨p, h1, h2, h3, h4⟩
      · left
        refine ⟨h1, fun q a => ?_⟩
        rcases Nat.lt_or_ge q len with h5 | h5
        · exact h2 q h5
        · rw [show q = len by omega]; omega
      · right
        refine ⟨p, h1, by omega, h3, fun q a1 a2 => ?_⟩
        rcases Nat.lt_or_ge q len with h5 | h5
        · exact h4 q a1 h5
        · rw [show q = len by omega]; omega
theorem rst_up (n a : Nat) : rst true n 0 (a : Int) = List.range' a (n + 1 - a) := by
  unfold rst; rw [if_pos rfl, lo0, Int.toNat_natCast]; rfl
theorem rst_down (n a : Nat) : rst false n 0 ((a : Int) - 1) = (List.range' 0 a).reverse := by
  unfold rst; rw [if_neg (by simp), lo0, show ((a : Int) - 1 + 1).toNat = a by omega]; simp [iv]
theorem ex_step (f : Nat → Bool) (i : Nat) : ex f (i + 1) = ex f i + 1 ∧ f i = true ∨ ex f (i + 1) = ex f i - 1 ∧ f i = false := by
  cases h : f i with
  | true => exact Or.inl ⟨ex_on h, rfl⟩
  | false => exact Or.inr ⟨ex_off h, rfl⟩
theorem ex_par (f : Nat → Bool) (i : Nat) : (ex f i - i) % 2 = 0 := by unfold ex; omega
/-- what closes a bracket -/
structure Cls (f : Nat → Bool) (n i c : Nat) : Prop where
  lt : i < c
  ltn : c < n
  off : f c = false
  on : f i = true
  eq : ex f (c + 1) = ex f i
  more : ∀ q, i < q → q ≤ c → ex f i < ex f q
/-- Close finds what closes, or tells that nothing does -/
theorem cls_spec {f : Nat → Bool} {n i : Nat} (hi : i < n) (hf : f i = true) : (cls f n i = -1 ∧ ∀ q, i < q → q ≤ n → ex f i < ex f q) ∨ ∃ c : Nat, cls f n i = c ∧ Cls f n i c := by
  have ho : opn f n i = true := by unfold opn hasB; simp [hf]; omega
  have hc : cls f n i = if clq f n i < 0 then -1 else clq f n i - 1 := by unfold cls; rw [if_pos ho, Int.toNat_natCast]
  have h1 := ex_on hf
  have hq : clq f n i = seek (ex f) (ex f i) (List.range' (i + 1) (n + 1 - (i + 1))) 0 := by unfold clq; rw [rst_up]
  rcases seek0_up (ex f) (ex f i) (n + 1 - (i + 1)) (i + 1) with ⟨a, b⟩ | ⟨p, a, b, c, d, e⟩
  · left
    rw [hc, hq, a]
    exact ⟨rfl, fun q h2 h3 => b q h2 (by omega)⟩
  · right
    have hp : i + 1 < p := by
      rcases Nat.eq_or_lt_of_le b with h | h
      · subst h; omega
      · exact h
    obtain ⟨c', rfl⟩ : ∃ c', p = c' + 1 := ⟨p - 1, by omega⟩
    have h2 := e c' (by omega) (Nat.lt_succ_self _)
    refine ⟨c', by rw [hc, hq, a, if_neg (by omega)]; omega, by omega, by omega, ?_, hf, ?_, fun q h3 h4 => e q h3 (by omega)⟩
    · rcases ex_step f c' with ⟨h3, _⟩ | ⟨_, h3⟩
      · omega
      · exact h3
    · rcases ex_step f c' with ⟨h3, _⟩ | ⟨h3, _⟩ <;> omega
theorem Cls.is {f : Nat → Bool} {n i c : Nat} (h : Cls f n i c) : cls f n i = c := by
  have hi : i < n := Nat.lt_trans h.lt h.ltn
  rcases cls_spec hi h.on with ⟨_, h2⟩ | ⟨c', h1, h2⟩
  · have := h2 (c + 1) (by have := h.lt; omega) h.ltn
    have := h.eq
    omega
  · rcases Nat.lt_trichotomy c c' with h3 | h3 | h3
    · have := h2.more (c + 1) (by have := h.lt; omega) h3
      have := h.eq
      omega
    · rw [h1, h3]
    · have := h.more (c' + 1) (by have := h2.lt; omega) h3
      have := h2.eq
      omega
theorem cls_nat {f : Nat → Bool} {n : Nat} {i : Int} (h : 0 ≤ cls f n i) : ∃ k c : Nat, i = k ∧ cls f n i = c ∧ Cls f n k c := by
  rcases cls_bd f n i with h1 | ⟨h1, h2, h3, h4⟩
  · omega
  · obtain ⟨k, rfl, hk, hf⟩ := opn_nat h4
    rcases cls_spec hk hf with ⟨h5, _⟩ | ⟨c, h5, h6⟩
    · omega
    · exact ⟨k, c, rfl, h5, h6⟩
/-- Open undoes Close -/
theorem Cls.open_ {f : Nat → Bool} {n i c : Nat} (h : Cls f n i c) : opo f n c = i := by
  have h1 := h.lt
  have h2 := h.ltn
  have hh : hasB n (c : Int) = true := by unfold hasB; simp; omega
  unfold opo
  rw [hh, Int.toNat_natCast, h.off]
  simp only [Bool.not_false, Bool.and_true, if_true]
  rw [rst_down]
  rcases seek0_down (ex f) (ex f (c + 1)) c with ⟨a, b⟩ | ⟨p, a, b, d, e⟩
  · have := b i h1; have := h.eq; omega
  · rw [a]
    rcases Nat.lt_trichotomy p i with h3 | h3 | h3
    · have := e i h3 h1; have := h.eq; omega
    · rw [h3]
    · have := h.more p h3 (by omega); have := h.eq; omega
theorem Cls.odd {f : Nat → Bool} {n i c : Nat} (h : Cls f n i c) : (c - i) % 2 = 1 := by
  have h1 := ex_par f i
  have h2 := ex_par f (c + 1)
  have := h.eq
  have := h.lt
  omega
/-- where the children of a pair have come to -/
structure Kid (f : Nat → Bool) (i c k t : Nat) : Prop where
  lo : i + 1 + 2 * k ≤ t
  hi : t ≤ c
  at_ : ex f t = ex f i + 1
  cnt : BM.cnt (ex f) (ex f i + 1) (List.range' (i + 1) (t - (i + 1))) = k
theorem Kid.start {f : Nat → Bool} {n i c : Nat} (h : Cls f n i c) : Kid f i c 0 (i + 1) :=
  ⟨by omega, h.lt, ex_on h.on, by simp [BM.cnt]⟩
theorem Kid.seek {f : Nat → Bool} {n i c k t : Nat} (h : Cls f n i c) (hk : Kid f i c k t) : chq f n i k = t := by
  have h1 := hk.lo
  have h2 := hk.hi
  have h3 := h.ltn
  unfold chq
  rw [show (i : Int) + 1 = ((i + 1 : Nat) : Int) from rfl, rst_up, range_split (b := t) (by omega) (by omega)]
  have hn : ¬ hit (ex f) (ex f i + 1) k (List.range' (i + 1) (t - (i + 1))) := by
    rintro (⟨p, hp, hl⟩ | hl)
    · rw [List.mem_range'_1] at hp
      have := h.more p (by omega) (by omega)
      omega
    · rw [hk.cnt] at hl; omega
  rw [seek_miss _ _ _ hn, hk.cnt, Nat.sub_self, show n + 1 - t = (n - t) + 1 by omega, List.range'_succ]
  unfold BM.seek
  rw [stop0, hk.at_]
  simp
theorem Kid.chl {f : Nat → Bool} {n i c k t : Nat} (h : Cls f n i c) (hk : Kid f i c k t) : chl f n i k = if t = c then -1 else (t : Int) := by
  have h2 := hk.hi
  unfold Proofs.YtelagemniheeoaaDoor.chl
  rw [h.is, Int.toNat_natCast, Int.toNat_natCast, hk.seek h, if_neg (by omega)]
  by_cases he : t = c
  · rw [if_pos he, if_pos (by omega)]
  · rw [if_neg he, if_neg (by omega)]
/-- a child, its pair, and the next one -/
theorem Kid.step {f : Nat → Bool} {n i c k t : Nat} (h : Cls f n i c) (hk : Kid f i c k t) (ht : t < c) : ∃ p, Cls f n t p ∧ p < c ∧ enc f n t = i ∧ Kid f i c (k + 1) (p + 1) := by
  have h1 := hk.lo
  have hc := h.ltn
  have hm := h.more (t + 1) (by omega) (by omega)
  have hat := hk.at_
  have hon : f t = true := by
    rcases ex_step f t with ⟨_, h3⟩ | ⟨h3, _⟩
    · exact h3
    · omega
  have hec : ex f c = ex f i + 1 := by have := ex_off h.off; have := h.eq; omega
  rcases cls_spec (show t < n by omega) hon with ⟨_, h2⟩ | ⟨p, h2, h3⟩
  · have := h2 c (by omega) (by omega); omega
  · have hpc : p < c := by
      rcases Nat.lt_or_ge p c with h4 | h4
      · exact h4
      · have := h3.more c (by omega) h4; omega
    have h4 := h3.lt
    have h5 := h3.odd
    refine ⟨p, h3, hpc, ?_, ⟨by omega, by omega, by have := h3.eq; omega, ?_⟩⟩
    · have hh : hasB n (t : Int) = true := by unfold hasB; simp; omega
      have he : enq f n t = i := by
        unfold enq
        rw [show min (ex f t) (ex f (t + 1)) - 1 = ex f i by have := ex_on hon; omega, rst_down]
        rcases seek0_down (ex f) (ex f i) t with ⟨a, b⟩ | ⟨q, a, b, d, e⟩
        · have := b i (by omega); omega
        · rw [a]
          rcases Nat.lt_trichotomy q i with h6 | h6 | h6
          · have := e i h6 (by omega); omega
          · rw [h6]
          · have := h.more q h6 (by omega); omega
      unfold enc
      rw [hh, Int.toNat_natCast, he, h.is]
      simp
    · rw [show p + 1 - (i + 1) = (p + 1) - (i + 1) from rfl, range_split (a := i + 1) (b := t) (c := p + 1) (by omega) (by omega), cnt_append, hk.cnt]
      congr 1
      rw [show p + 1 - t = (p - t) + 1 by omega, List.range'_succ, cnt_cons, if_pos hat, cnt_zero]
      intro q hq
      rw [List.mem_range'_1] at hq
      have := h3.more q (by omega) (by omega)
      omega
theorem siz_is {f : Nat → Bool} {n i c : Nat} (h : Cls f n i c) : siz f n i = ((c : Int) - i + 1) / 2 := by
  unfold siz
  rw [h.is, if_neg (by omega)]
end Go.Proofs.YtelagemniheeoaaDoor
