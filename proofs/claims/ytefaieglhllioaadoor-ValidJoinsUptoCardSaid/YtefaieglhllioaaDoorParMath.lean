/- Brackets as bits: ranks, excesses, and a search through blocks: plain mathematics. -/
import Derived.Test.YtefaieglhllioaaDoorParPop
namespace Go.Proofs.YtefaieglhllioaaDoor.BM

/-- bit i of a row of words -/
def wb (ws : List (BitVec 64)) (i : Nat) : Bool := match ws[i / 64]? with | some x => x.getLsbD (i % 64) | none => false
/-- how many ones ahead of a place -/
def rk (f : Nat → Bool) : Nat → Nat
  | 0 => 0
  | i + 1 => rk f i + (f i).toNat
theorem rk_succ (f : Nat → Bool) (i : Nat) : rk f (i + 1) = rk f i + (f i).toNat := rfl
/-- the excess -/
def ex (f : Nat → Bool) (i : Nat) : Int := 2 * (rk f i : Int) - i
theorem ex_zero (f : Nat → Bool) : ex f 0 = 0 := rfl
theorem ex_succ (f : Nat → Bool) (i : Nat) : ex f (i + 1) = ex f i + (if f i then 1 else -1) := by
  unfold ex
  rw [rk_succ]
  cases f i <;> simp <;> omega
theorem ex_on {f : Nat → Bool} {i : Nat} (h : f i = true) : ex f (i + 1) = ex f i + 1 := by rw [ex_succ, h]; rfl
theorem ex_off {f : Nat → Bool} {i : Nat} (h : f i = false) : ex f (i + 1) = ex f i - 1 := by rw [ex_succ, h]; rfl
theorem rk_le (f : Nat → Bool) : ∀ i, rk f i ≤ i
  | 0 => Nat.le_refl _
  | i + 1 => by have := rk_le f i; rw [rk_succ]; cases f i <;> simp <;> omega
theorem ex_bd (f : Nat → Bool) (i : Nat) : -(i : Int) ≤ ex f i ∧ ex f i ≤ i := by have := rk_le f i; unfold ex; omega
theorem rk_mono (f : Nat → Bool) {i j : Nat} (h : i ≤ j) : rk f i ≤ rk f j := by
  induction h with
  | refl => exact Nat.le_refl _
  | step _ ih => exact Nat.le_trans ih (by show _ ≤ rk f _ + _; omega)
theorem rk_add (f : Nat → Bool) (i : Nat) : ∀ j, rk f (i + j) = rk f i + rk (fun k => f (i + k)) j
  | 0 => rfl
  | j + 1 => by rw [← Nat.add_assoc, rk_succ, rk_succ, rk_add f i j]; omega
theorem rk_cong {f g : Nat → Bool} : ∀ {n : Nat}, (∀ i, i < n → f i = g i) → rk f n = rk g n
  | 0, _ => rfl
  | n + 1, h => by rw [rk_succ, rk_succ, rk_cong (fun i hi => h i (by omega)), h n (by omega)]
theorem pc_rk (x : BitVec 64) : ∀ n, pc x n = rk (fun i => x.getLsbD i) n
  | 0 => rfl
  | n + 1 => by rw [rk_succ, ← pc_rk x n]; rfl
/-- the ones of the word w, up to a place of it -/
theorem rk_word {ws : List (BitVec 64)} {w : Nat} {x : BitVec 64} (h : ws[w]? = some x) (j : Nat) (hj : j ≤ 64) : rk (wb ws) (64 * w + j) = rk (wb ws) (64 * w) + pc x j := by
  rw [rk_add, pc_rk]
  congr 1
  apply rk_cong
  intro i hi
  unfold wb
  rw [show (64 * w + i) / 64 = w by omega, show (64 * w + i) % 64 = i by omega, h]
def lowm (m : Nat) : BitVec 64 := 1#64 <<< m - 1#64
theorem lowm_bit {m : Nat} (hm : m < 64) {i : Nat} (hi : i < 64) : (lowm m).getLsbD i = decide (i < m) := by
  have h : (lowm m).toNat = 2 ^ m - 1 := by
    have h1 : 2 ^ m < 2 ^ 64 := Nat.pow_lt_pow_right (by omega) hm
    have h2 : 0 < 2 ^ m := Nat.two_pow_pos m
    unfold lowm
    rw [BitVec.toNat_sub, BitVec.toNat_shiftLeft]
    simp only [BitVec.toNat_ofNat, Nat.shiftLeft_eq]
    rw [show 1 % 2 ^ 64 = 1 from rfl, Nat.one_mul, Nat.mod_eq_of_lt h1]
    generalize 2 ^ m = q at *
    omega
  unfold BitVec.getLsbD
  rw [h, Nat.testBit_two_pow_sub_one]
theorem pc_mask (x : BitVec 64) {m : Nat} (hm : m < 64) : pc (x &&& lowm m) 64 = pc x m := by
  have h1 : ∀ n, n ≤ 64 → pc (x &&& lowm m) n = pc x (min m n) := by
    intro n
    induction n with
    | zero => intro _; simp [pc]
    | succ n ih =>
      intro hn
      show pc (x &&& lowm m) n + _ = _
      rw [ih (by omega), BitVec.getLsbD_and, lowm_bit hm (by omega)]
      by_cases h : n < m
      · rw [show min m n = n by omega, show min m (n + 1) = n + 1 by omega]; simp [h, pc]
      · rw [show min m n = m by omega, show min m (n + 1) = m by omega]; simp [h]
  rw [h1 64 (Nat.le_refl _), show min m 64 = m by omega]
theorem pc_le (x : BitVec 64) (n : Nat) : pc x n ≤ n := by rw [pc_rk]; exact rk_le _ _

/- THE SEARCH: places one by one, of which some are passed by -/
def stop (e : Int) (k : Nat) (l : Int) (m : Nat) : Bool := decide (l < e) || (decide (l = e) && decide (k < m))
def nxt (e : Int) (k : Nat) (l : Int) (m : Nat) : Nat := if l = e then k - m else k
def seek (g : Nat → Int) (e : Int) : List Nat → Nat → Int
  | [], _ => -1
  | p :: ps, k => if stop e k (g p) 1 then (p : Int) else seek g e ps (nxt e k (g p) 1)
def cnt (g : Nat → Int) (e : Int) : List Nat → Nat
  | [] => 0
  | p :: ps => (if g p = e then 1 else 0) + cnt g e ps
def hit (g : Nat → Int) (e : Int) (k : Nat) (ps : List Nat) : Prop := (∃ p ∈ ps, g p < e) ∨ k < cnt g e ps
theorem stop_iff (e : Int) (k : Nat) (l : Int) (m : Nat) : stop e k l m = true ↔ (l < e ∨ (l = e ∧ k < m)) := by simp [stop]
theorem cnt_append (g : Nat → Int) (e : Int) : ∀ (ps qs : List Nat), cnt g e (ps ++ qs) = cnt g e ps + cnt g e qs
  | [], qs => by simp [cnt]
  | p :: ps, qs => by simp only [List.cons_append, cnt, cnt_append g e ps qs]; omega
theorem cnt_cons (g : Nat → Int) (e : Int) (p : Nat) (ps : List Nat) : cnt g e (p :: ps) = (if g p = e then 1 else 0) + cnt g e ps := rfl
theorem hit_cons {g : Nat → Int} {e : Int} {k p : Nat} {ps : List Nat} (h : stop e k (g p) 1 = false) : hit g e k (p :: ps) ↔ hit g e (nxt e k (g p) 1) ps := by
  have h' : ¬ (g p < e ∨ (g p = e ∧ k < 1)) := by rw [← stop_iff]; simp [h]
  unfold hit nxt
  rw [cnt_cons]
  constructor
  · rintro (⟨q, hq, hl⟩ | hk)
    · rcases List.mem_cons.1 hq with rfl | hq
      · omega
      · exact Or.inl ⟨q, hq, hl⟩
    · right; split at hk <;> split <;> omega
  · rintro (⟨q, hq, hl⟩ | hk)
    · exact Or.inl ⟨q, List.mem_cons_of_mem _ hq, hl⟩
    · right; split at hk <;> split <;> omega
theorem seek_hit {g : Nat → Int} {e : Int} (r : List Nat) : ∀ (ps : List Nat) (k : Nat), hit g e k ps → seek g e (ps ++ r) k = seek g e ps k ∧ ∃ p ∈ ps, seek g e ps k = (p : Nat)
  | [], k, h => by
    rcases h with ⟨p, hp, _⟩ | h
    · cases hp
    · simp [cnt] at h
  | p :: ps, k, h => by
    simp only [List.cons_append, seek]
    by_cases hs : stop e k (g p) 1 = true
    · simp only [hs, if_true]; exact ⟨trivial, p, by simp, rfl⟩
    · have hs' : stop e k (g p) 1 = false := by simpa using hs
      simp only [hs', Bool.false_eq_true, if_false]
      obtain ⟨h1, q, hq, h2⟩ := seek_hit r ps _ ((hit_cons hs').1 h)
      exact ⟨h1, q, List.mem_cons_of_mem _ hq, h2⟩
theorem seek_miss {g : Nat → Int} {e : Int} (r : List Nat) : ∀ (ps : List Nat) (k : Nat), ¬ hit g e k ps → seek g e (ps ++ r) k = seek g e r (k - cnt g e ps)
  | [], k, _ => by simp [cnt]
  | p :: ps, k, h => by
    have hs' : stop e k (g p) 1 = false := by
      rw [Bool.eq_false_iff]; intro hs
      apply h
      rcases (stop_iff _ _ _ _).1 hs with h1 | ⟨h1, h2⟩
      · exact Or.inl ⟨p, by simp, h1⟩
      · right; simp [cnt, h1]; omega
    simp only [List.cons_append, seek, hs', Bool.false_eq_true, if_false]
    rw [seek_miss r ps _ (fun hh => h ((hit_cons hs').2 hh))]
    congr 1
    unfold nxt
    rw [cnt_cons]
    split <;> omega
/-- the least of some places, and how many have it -/
def IsAgg (g : Nat → Int) (ps : List Nat) (l : Int) (m : Nat) : Prop := (∀ p ∈ ps, l ≤ g p) ∧ m = cnt g l ps ∧ 0 < m
theorem cnt_pos {g : Nat → Int} {e : Int} : ∀ {ps : List Nat}, 0 < cnt g e ps → ∃ p ∈ ps, g p = e
  | [], h => by simp [cnt] at h
  | p :: ps, h => by
    by_cases hp : g p = e
    · exact ⟨p, by simp, hp⟩
    · simp only [cnt, hp, if_false, Nat.zero_add] at h
      obtain ⟨q, h1, h2⟩ := cnt_pos h
      exact ⟨q, List.mem_cons_of_mem _ h1, h2⟩
theorem agg_hit {g : Nat → Int} {ps : List Nat} {l : Int} {m : Nat} (h : IsAgg g ps l m) (e : Int) (k : Nat) : stop e k l m = true ↔ hit g e k ps := by
  obtain ⟨h1, h2, h3⟩ := h
  rw [stop_iff]
  constructor
  · rintro (hl | ⟨rfl, hk⟩)
    · obtain ⟨p, hp, e1⟩ := cnt_pos (h2 ▸ h3)
      exact Or.inl ⟨p, hp, by omega⟩
    · exact Or.inr (h2 ▸ hk)
  · rintro (⟨p, hp, hl⟩ | hk)
    · left; have := h1 p hp; omega
    · by_cases hle : l < e
      · exact Or.inl hle
      · obtain ⟨p, hp, e1⟩ := cnt_pos (show 0 < cnt g e ps by omega)
        have := h1 p hp
        obtain rfl : l = e := by omega
        exact Or.inr ⟨rfl, h2 ▸ hk⟩
theorem agg_nxt {g : Nat → Int} {ps : List Nat} {l : Int} {m : Nat} (h : IsAgg g ps l m) {e : Int} {k : Nat} (hs : stop e k l m = false) : nxt e k l m = k - cnt g e ps := by
  obtain ⟨h1, h2, h3⟩ := h
  have hs' : ¬ (l < e ∨ (l = e ∧ k < m)) := by rw [← stop_iff]; simp [hs]
  unfold nxt
  split
  · rename_i he; subst he; rw [h2]
  · rcases Nat.eq_zero_or_pos (cnt g e ps) with h0 | h0
    · rw [h0]; rfl
    · obtain ⟨p, hp, e1⟩ := cnt_pos h0
      have := h1 p hp
      omega
/-- what a block tells, passed by or gone into -/
theorem seek_block {g : Nat → Int} {ps : List Nat} {l : Int} {m : Nat} (h : IsAgg g ps l m) (e : Int) (k : Nat) (r : List Nat) :
    (stop e k l m = true → seek g e (ps ++ r) k = seek g e ps k ∧ ∃ p ∈ ps, seek g e ps k = (p : Nat)) ∧ (stop e k l m = false → seek g e (ps ++ r) k = seek g e r (nxt e k l m)) := by
  refine ⟨fun hs => seek_hit r ps k ((agg_hit h e k).1 hs), fun hs => ?_⟩
  rw [agg_nxt h hs]
  exact seek_miss r ps k (fun hh => by rw [(agg_hit h e k).2 hh] at hs; cases hs)
theorem agg_one (g : Nat → Int) (p : Nat) : IsAgg g [p] (g p) 1 := ⟨fun q h => by rw [List.mem_singleton.1 h]; exact Int.le_refl _, by simp [cnt], Nat.one_pos⟩
theorem agg_less {g : Nat → Int} {ps qs : List Nat} {l x : Int} {m n : Nat} (h : IsAgg g ps l m) (h2 : IsAgg g qs x n) (hx : x < l) : IsAgg g (ps ++ qs) x n := by
  refine ⟨fun p hp => ?_, ?_, h2.2.2⟩
  · rcases List.mem_append.1 hp with hp | hp
    · have := h.1 p hp; omega
    · exact h2.1 p hp
  · rw [cnt_append, ← h2.2.1]
    rcases Nat.eq_zero_or_pos (cnt g x ps) with h0 | h0
    · omega
    · obtain ⟨p, hp, e1⟩ := cnt_pos h0
      have := h.1 p hp
      omega
theorem cnt_zero {g : Nat → Int} {qs : List Nat} {l : Int} (h : ∀ p ∈ qs, l < g p) : cnt g l qs = 0 := by
  rcases Nat.eq_zero_or_pos (cnt g l qs) with h0 | h0
  · exact h0
  · obtain ⟨p, hp, e1⟩ := cnt_pos h0
    have := h p hp
    omega
theorem agg_same {g : Nat → Int} {ps qs : List Nat} {l : Int} {m n : Nat} (h : IsAgg g ps l m) (h2 : IsAgg g qs l n) : IsAgg g (ps ++ qs) l (m + n) := by
  refine ⟨fun p hp => ?_, ?_, by have := h.2.2; omega⟩
  · rcases List.mem_append.1 hp with hp | hp
    · exact h.1 p hp
    · exact h2.1 p hp
  · rw [cnt_append, ← h2.2.1, ← h.2.1]
theorem agg_more {g : Nat → Int} {ps qs : List Nat} {l x : Int} {m n : Nat} (h : IsAgg g ps l m) (h2 : IsAgg g qs x n) (hx : l < x) : IsAgg g (ps ++ qs) l m := by
  refine ⟨fun p hp => ?_, ?_, h.2.2⟩
  · rcases List.mem_append.1 hp with hp | hp
    · exact h.1 p hp
    · have := h2.1 p hp; omega
  · rw [cnt_append, ← h.2.1, cnt_zero (fun p hp => by have := h2.1 p hp; omega)]; rfl
theorem cnt_rev (g : Nat → Int) (e : Int) : ∀ (ps : List Nat), cnt g e ps.reverse = cnt g e ps
  | [] => rfl
  | p :: ps => by rw [List.reverse_cons, cnt_append, cnt_rev g e ps]; simp [cnt]; omega
theorem IsAgg.rev {g : Nat → Int} {ps : List Nat} {l : Int} {m : Nat} (h : IsAgg g ps l m) : IsAgg g ps.reverse l m := ⟨fun p hp => h.1 p (List.mem_reverse.1 hp), by rw [cnt_rev]; exact h.2.1, h.2.2⟩

/- INTERVALS, gone through up or down -/
def iv (up : Bool) (a b : Nat) : List Nat := if up then List.range' a (b - a) else (List.range' a (b - a)).reverse
theorem iv_up (a b : Nat) : iv true a b = List.range' a (b - a) := rfl
theorem iv_agg {g : Nat → Int} {up : Bool} {a b : Nat} {l : Int} {m : Nat} (h : IsAgg g (List.range' a (b - a)) l m) : IsAgg g (iv up a b) l m := by
  cases up
  · exact h.rev
  · exact h
theorem range_split {a b c : Nat} (h1 : a ≤ b) (h2 : b ≤ c) : List.range' a (c - a) = List.range' a (b - a) ++ List.range' b (c - b) := by
  have := List.range'_append_1 (s := a) (m := b - a) (n := c - b)
  rw [show a + (b - a) = b by omega, show b - a + (c - b) = c - a by omega] at this
  exact this.symm
theorem iv_split_up {a b c : Nat} (h1 : a ≤ b) (h2 : b ≤ c) : iv true a c = iv true a b ++ iv true b c := range_split h1 h2
theorem iv_split_down {a b c : Nat} (h1 : a ≤ b) (h2 : b ≤ c) : iv false a c = iv false b c ++ iv false a b := by
  show (List.range' a (c - a)).reverse = _
  rw [range_split h1 h2, List.reverse_append]; rfl
theorem iv_mem {up : Bool} {a b p : Nat} : p ∈ iv up a b ↔ a ≤ p ∧ p < b := by
  cases up <;> simp [iv, List.mem_range'_1] <;> omega
theorem iv_nil {up : Bool} {a b : Nat} (h : b ≤ a) : iv up a b = [] := by cases up <;> simp [iv, show b - a = 0 by omega]
theorem iv_one (up : Bool) (p : Nat) : iv up p (p + 1) = [p] := by cases up <;> simp [iv, show p + 1 - p = 1 by omega]
/-- how many times a node of a depth is halved to be a place -/
def sh : Nat → Nat
  | 0 => 0
  | d + 1 => if d = 0 then 6 else sh d + 3
theorem sh_succ (d : Nat) : sh (d + 2) = sh (d + 1) + 3 := by simp [sh]
theorem sh_by (d : Nat) : sh (d + 1) = sh d + (if d = 0 then 6 else 3) := by
  cases d with
  | zero => rfl
  | succ d => rw [sh_succ]; simp
/-- the places of a node, of n + 1 -/
def lo (d at_ : Nat) : Nat := at_ * 2 ^ sh d
def hi_ (n d at_ : Nat) : Nat := min (n + 1) ((at_ + 1) * 2 ^ sh d)
end Go.Proofs.YtefaieglhllioaaDoor.BM
