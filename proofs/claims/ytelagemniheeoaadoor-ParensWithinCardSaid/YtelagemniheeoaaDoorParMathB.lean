/- A search through blocks, step by step: plain mathematics. -/
import Derived.Test.YtelagemniheeoaaDoorParMath
namespace Go.Proofs.YtelagemniheeoaaDoor.BM

theorem hit_append {g : Nat → Int} {e : Int} {k : Nat} {ps qs : List Nat} (h : hit g e k (ps ++ qs)) (hn : ¬ hit g e k ps) : hit g e (k - cnt g e ps) qs := by
  rcases h with ⟨p, hp, hl⟩ | h
  · rcases List.mem_append.1 hp with hp | hp
    · exact absurd (Or.inl ⟨p, hp, hl⟩) hn
    · exact Or.inl ⟨p, hp, hl⟩
  · rw [cnt_append] at h
    by_cases h1 : k < cnt g e ps
    · exact absurd (Or.inr h1) hn
    · exact Or.inr (by omega)
theorem hit_ne {g : Nat → Int} {e : Int} {k : Nat} {ps : List Nat} (h : hit g e k ps) : ps ≠ [] := by
  rintro rfl
  rcases h with ⟨p, hp, _⟩ | h
  · cases hp
  · simp [cnt] at h
theorem hit_one {g : Nat → Int} {e : Int} {k p : Nat} (h : hit g e k [p]) : seek g e [p] k = p := by
  have := (agg_hit (agg_one g p) e k).2 h
  simp [seek, this]
/-- how many halvings lie between a depth and the one above -/
def by_ (d : Nat) : Nat := if d = 0 then 6 else 3
theorem sh_up (d : Nat) : 2 ^ sh (d + 1) = 2 ^ by_ d * 2 ^ sh d := by rw [sh_by, Nat.pow_add, Nat.mul_comm]; rfl
theorem by_two (d : Nat) : 2 ^ by_ d = 64 ∨ 2 ^ by_ d = 8 := by unfold by_; split <;> simp
theorem sh_pos (d : Nat) : 0 < 2 ^ sh d := Nat.two_pow_pos _
/-- a node's places, from the near end on -/
def blk (up : Bool) (n d i : Nat) : List Nat := iv up (lo d i) (hi_ n d i)
theorem lo_cn {n d i : Nat} : lo d i ≤ n ↔ i < n / 2 ^ sh d + 1 := by
  unfold lo
  rw [Nat.lt_succ_iff, Nat.le_div_iff_mul_le (sh_pos d)]
theorem hi_full {n d i : Nat} (h : (i + 1) * 2 ^ sh d ≤ n + 1) : hi_ n d i = (i + 1) * 2 ^ sh d := by unfold hi_; omega
theorem lo_succ (d i : Nat) : lo d (i + 1) = lo d i + 2 ^ sh d := by unfold lo; rw [Nat.succ_mul]
theorem hi_eq (n d i : Nat) : hi_ n d i = min (n + 1) (lo d i + 2 ^ sh d) := by unfold hi_ lo; rw [Nat.succ_mul]
theorem lo_child (d i y : Nat) : lo d (i * 2 ^ by_ d + y) = lo (d + 1) i + y * 2 ^ sh d := by
  unfold lo; rw [sh_up, Nat.add_mul, Nat.mul_assoc]
/-- what is left of a node, from a child of it on -/
def rin (up : Bool) (n d i y : Nat) : List Nat := if up then iv true (lo d y) (hi_ n (d + 1) i) else iv false (lo (d + 1) i) (lo d (y + 1))
/-- where a search within a node stands -/
structure Win (g : Nat → Int) (e : Int) (up : Bool) (n d i y k : Nat) : Prop where
  hit : BM.hit g e k (rin up n d i y)
  low : i * 2 ^ by_ d ≤ y
  high : y < (i + 1) * 2 ^ by_ d
  full : up = false → (i + 1) * 2 ^ sh (d + 1) ≤ n + 1
theorem lo_mono (d : Nat) {i j : Nat} (h : i ≤ j) : lo d i ≤ lo d j := Nat.mul_le_mul_right _ h
theorem lo_up (d i : Nat) : lo d (i * 2 ^ by_ d) = lo (d + 1) i := by have := lo_child d i 0; simpa using this
theorem Win.start_up {g : Nat → Int} {e : Int} {n d i k : Nat} (h : BM.hit g e k (blk true n (d + 1) i)) : Win g e true n d i (i * 2 ^ by_ d) k :=
  ⟨by unfold rin; rw [if_pos rfl, lo_up]; exact h, Nat.le_refl _, by rw [Nat.succ_mul]; have := Nat.two_pow_pos (by_ d); omega, fun h => by cases h⟩
theorem rin_start_up (n d i : Nat) : rin true n d i (i * 2 ^ by_ d) = blk true n (d + 1) i := by unfold rin; rw [if_pos rfl, lo_up]; rfl
theorem rin_start_down {n d i : Nat} (hf : (i + 1) * 2 ^ sh (d + 1) ≤ n + 1) : rin false n d i (i * 2 ^ by_ d + (2 ^ by_ d - 1)) = blk false n (d + 1) i := by
  have hp := Nat.two_pow_pos (by_ d)
  have e : lo d (i * 2 ^ by_ d + (2 ^ by_ d - 1) + 1) = lo (d + 1) (i + 1) := by
    rw [← lo_up, Nat.succ_mul]; congr 1; omega
  unfold rin blk
  rw [if_neg (by simp), e, hi_full hf]
  rfl
theorem Win.start_down {g : Nat → Int} {e : Int} {n d i k : Nat} (h : BM.hit g e k (blk false n (d + 1) i)) (hf : (i + 1) * 2 ^ sh (d + 1) ≤ n + 1) : Win g e false n d i (i * 2 ^ by_ d + (2 ^ by_ d - 1)) k := by
  have hp := Nat.two_pow_pos (by_ d)
  exact ⟨by rw [rin_start_down hf]; exact h, by omega, by rw [Nat.succ_mul]; omega, fun _ => hf⟩
/-- the child is a node; it is gone into, or passed by -/
theorem Win.step {g : Nat → Int} {e : Int} {up : Bool} {n d i y k : Nat} (h : Win g e up n d i y k) {l : Int} {m : Nat} (ha : lo d y ≤ n → IsAgg g (List.range' (lo d y) (hi_ n d y - lo d y)) l m) :
    lo d y ≤ n ∧ (stop e k l m = true → seek g e (rin up n d i y) k = seek g e (blk up n d y) k ∧ BM.hit g e k (blk up n d y)) ∧
    (stop e k l m = false → ∃ y' : Nat, (y' : Int) = y + (if up then 1 else -1) ∧ seek g e (rin up n d i y) k = seek g e (rin up n d i y') (nxt e k l m) ∧ Win g e up n d i y' (nxt e k l m)) := by
  have hB := sh_pos d
  have hH := hi_eq n d y
  have hL := lo_succ d y
  have hne := hit_ne h.hit
  cases up
  · have hf := h.full rfl
    have h1 : lo (d + 1) i ≤ lo d y := by rw [← lo_up]; exact lo_mono d h.low
    have h2 : lo d (y + 1) ≤ n + 1 := by
      have := lo_mono d h.high
      rw [lo_up] at this
      exact Nat.le_trans this hf
    have hly : lo d y ≤ n := by omega
    have hhy : hi_ n d y = lo d (y + 1) := by omega
    have hag := iv_agg (up := false) (ha hly)
    have hsp : rin false n d i y = blk false n d y ++ iv false (lo (d + 1) i) (lo d y) := by
      unfold rin blk
      rw [if_neg (by simp), hhy]
      exact iv_split_down h1 (by omega)
    have hb := seek_block hag e k (iv false (lo (d + 1) i) (lo d y))
    have hah := agg_hit hag e k
    refine ⟨hly, fun hs => ?_, fun hs => ?_⟩
    · rw [hsp]
      exact ⟨(hb.1 hs).1, hah.1 hs⟩
    · have hnh : ¬ BM.hit g e k (blk false n d y) := fun hh => by rw [hah.2 hh] at hs; cases hs
      have hh := h.hit
      rw [hsp] at hh
      have h3 := hit_append hh hnh
      rw [show cnt g e (blk false n d y) = cnt g e (iv false (lo d y) (hi_ n d y)) from rfl] at h3
      rw [← agg_nxt hag hs] at h3
      have hlt : lo (d + 1) i < lo d y := by
        rcases Nat.lt_or_ge (lo (d + 1) i) (lo d y) with h | h
        · exact h
        · exact absurd (iv_nil h) (hit_ne h3)
      have hy : i * 2 ^ by_ d < y := by
        rcases Nat.lt_or_ge (i * 2 ^ by_ d) y with h | h
        · exact h
        · have := lo_mono d h; rw [lo_up] at this; omega
      obtain ⟨y', rfl⟩ : ∃ y', y = y' + 1 := ⟨y - 1, by omega⟩
      refine ⟨y', by simp; omega, ?_, ?_, by omega, by have := h.high; omega, fun _ => hf⟩
      · rw [hsp]; exact hb.2 hs
      · exact h3
  · have h1 : lo d y < hi_ n (d + 1) i := by
      rcases Nat.lt_or_ge (lo d y) (hi_ n (d + 1) i) with h | h
      · exact h
      · unfold rin at hne; rw [if_pos rfl, iv_nil h] at hne; exact absurd rfl hne
    have hHp := hi_eq n (d + 1) i
    have hly : lo d y ≤ n := by omega
    have hag := iv_agg (up := true) (ha hly)
    have hle : hi_ n d y ≤ hi_ n (d + 1) i := by
      have h2 := lo_mono d (show y + 1 ≤ (i + 1) * 2 ^ by_ d from h.high)
      rw [lo_up, lo_succ (d + 1)] at h2
      omega
    have hsp : rin true n d i y = blk true n d y ++ iv true (hi_ n d y) (hi_ n (d + 1) i) := by
      unfold rin blk
      rw [if_pos rfl]
      exact iv_split_up (by omega) hle
    have hb := seek_block hag e k (iv true (hi_ n d y) (hi_ n (d + 1) i))
    have hah := agg_hit hag e k
    refine ⟨hly, fun hs => ?_, fun hs => ?_⟩
    · rw [hsp]
      exact ⟨(hb.1 hs).1, hah.1 hs⟩
    · have hnh : ¬ BM.hit g e k (blk true n d y) := fun hh => by rw [hah.2 hh] at hs; cases hs
      have hh := h.hit
      rw [hsp] at hh
      have h3 := hit_append hh hnh
      rw [show cnt g e (blk true n d y) = cnt g e (iv true (lo d y) (hi_ n d y)) from rfl] at h3
      rw [← agg_nxt hag hs] at h3
      have hlt : hi_ n d y < hi_ n (d + 1) i := by
        rcases Nat.lt_or_ge (hi_ n d y) (hi_ n (d + 1) i) with h | h
        · exact h
        · exact absurd (iv_nil h) (hit_ne h3)
      have e1 : hi_ n d y = lo d (y + 1) := by omega
      have e2 : iv true (hi_ n d y) (hi_ n (d + 1) i) = rin true n d i (y + 1) := by unfold rin; rw [if_pos rfl, e1]
      rw [e2] at h3 hb
      refine ⟨y + 1, by simp, ?_, h3, by have := h.low; omega, ?_, fun h => by cases h⟩
      · rw [hsp, e2]; exact hb.2 hs
      · have h4 := hi_eq n (d + 1) i
        have h5 : lo d (y + 1) < lo (d + 1) (i + 1) := by rw [lo_succ (d + 1)]; omega
        rw [← lo_up] at h5
        rcases Nat.lt_or_ge (y + 1) ((i + 1) * 2 ^ by_ d) with h | h
        · exact h
        · have := lo_mono d h; omega
/-- what is left, from a node on -/
def rst (up : Bool) (n d : Nat) (z : Int) : List Nat := if up then iv true (lo d z.toNat) (n + 1) else iv false 0 (lo d (z + 1).toNat)
/-- where a search stands -/
def At (up : Bool) (n d : Nat) (z : Int) : Prop := if up then 0 ≤ z else -1 ≤ z ∧ lo d (z + 1).toNat ≤ n + 1
theorem rst_end {up : Bool} {n d : Nat} {z : Int} (h : At up n d z) (hz : z < 0 ∨ ((n / 2 ^ sh d + 1 : Nat) : Int) ≤ z) : rst up n d z = [] := by
  cases up
  · unfold At at h; simp only [Bool.false_eq_true, if_false] at h
    have hz0 : z < 0 := by
      rcases hz with hz | hz
      · exact hz
      · exfalso
        have h1 : ¬ lo d z.toNat ≤ n := by rw [lo_cn]; generalize n / 2 ^ sh d = q at *; omega
        have h2 := lo_succ d z.toNat
        have hz' : 0 ≤ z := Int.le_trans (Int.natCast_nonneg _) hz
        rw [show (z + 1).toNat = z.toNat + 1 by omega] at h
        have := sh_pos d
        omega
    unfold rst
    rw [if_neg (by simp), show (z + 1).toNat = 0 by omega]
    exact iv_nil (by simp [lo])
  · unfold At at h; simp only [if_true] at h
    unfold rst
    rw [if_pos rfl]
    apply iv_nil
    have h1 : ¬ lo d z.toNat ≤ n := by rw [lo_cn]; generalize n / 2 ^ sh d = q at *; omega
    omega
theorem rst_step {up : Bool} {n d y : Nat} (h : At up n d y) (hy : lo d y ≤ n) : rst up n d y = blk up n d y ++ rst up n d (y + (if up then 1 else -1)) ∧ At up n d (y + (if up then 1 else -1)) ∧ (rst up n d (y + (if up then 1 else -1))).length < (rst up n d y).length ∧ (up = false → (y + 1) * 2 ^ sh d ≤ n + 1) := by
  have hB := sh_pos d
  have hH := hi_eq n d y
  have hL := lo_succ d y
  have key : rst up n d y = blk up n d y ++ rst up n d (y + (if up then 1 else -1)) ∧ At up n d (y + (if up then 1 else -1)) ∧ (up = false → (y + 1) * 2 ^ sh d ≤ n + 1) := by
    cases up
    · unfold At at h; simp only [Bool.false_eq_true, if_false] at h
      rw [show ((y : Int) + 1).toNat = y + 1 by omega] at h
      have hf : hi_ n d y = lo d (y + 1) := by omega
      refine ⟨?_, ?_, fun _ => h.2⟩
      · unfold rst blk
        simp only [Bool.false_eq_true, if_false]
        rw [show ((y : Int) + 1).toNat = y + 1 by omega, show ((y : Int) + -1 + 1).toNat = y by omega, hf]
        exact iv_split_down (Nat.zero_le _) (by omega)
      · unfold At
        simp only [Bool.false_eq_true, if_false]
        exact ⟨by omega, by rw [show ((y : Int) + -1 + 1).toNat = y by omega]; omega⟩
    · refine ⟨?_, by unfold At; simp only [if_true]; omega, fun h => by cases h⟩
      unfold rst blk
      simp only [if_true]
      rw [show ((y : Int) + 1).toNat = y + 1 by omega, Int.toNat_natCast]
      rw [iv_split_up (a := lo d y) (b := hi_ n d y) (c := n + 1) (by omega) (by omega)]
      congr 1
      rcases Nat.lt_or_ge n (lo d (y + 1)) with h1 | h1
      · rw [iv_nil (by omega), iv_nil (by omega)]
      · congr 1; omega
  refine ⟨key.1, key.2.1, ?_, key.2.2⟩
  rw [key.1, List.length_append]
  have : 0 < (blk up n d y).length := by
    unfold blk
    cases up <;> simp [iv] <;> omega
  omega
theorem rst_parent {up : Bool} {n d y : Nat} (h : At up n d (y + (if up then 1 else -1))) (hc : ((y : Int) + (if up then 1 else -1)) / 2 ^ by_ d ≠ (y : Int) / 2 ^ by_ d) : rst up n (d + 1) (((y : Int) + (if up then 1 else -1)) / 2 ^ by_ d) = rst up n d (y + (if up then 1 else -1)) ∧ At up n (d + 1) (((y : Int) + (if up then 1 else -1)) / 2 ^ by_ d) := by
  have hq : (2 ^ by_ d : Int) = 64 ∨ (2 ^ by_ d : Int) = 8 := by unfold by_; split <;> simp
  cases up
  · unfold At rst at *
    simp only [Bool.false_eq_true, if_false] at *
    have e : ∃ q : Nat, (y : Int) = q * 2 ^ by_ d ∧ ((y : Int) + -1) / 2 ^ by_ d = q - 1 := by
      rcases hq with hq | hq <;> rw [hq] at hc ⊢
      · exact ⟨y / 64, by omega, by omega⟩
      · exact ⟨y / 8, by omega, by omega⟩
    obtain ⟨q, e1, e2⟩ := e
    obtain ⟨h0, h2⟩ := h
    rw [show ((y : Int) + -1 + 1).toNat = y by omega] at h2 ⊢
    rw [e2, show ((q : Int) - 1 + 1).toNat = q by omega]
    have e3 : y = q * 2 ^ by_ d := by
      have : (y : Int) = ((q * 2 ^ by_ d : Nat) : Int) := by rw [e1]; simp
      omega
    rw [e3, lo_up] at h2 ⊢
    exact ⟨rfl, by omega, h2⟩
  · unfold At rst at *
    simp only [if_true] at *
    have e : ∃ q : Nat, (y : Int) + 1 = q * 2 ^ by_ d ∧ ((y : Int) + 1) / 2 ^ by_ d = q := by
      rcases hq with hq | hq <;> rw [hq] at hc ⊢
      · exact ⟨(y + 1) / 64, by omega, by omega⟩
      · exact ⟨(y + 1) / 8, by omega, by omega⟩
    obtain ⟨q, e1, e2⟩ := e
    rw [e2, Int.toNat_natCast, show ((y : Int) + 1).toNat = y + 1 by omega]
    have e3 : y + 1 = q * 2 ^ by_ d := by
      have : ((y + 1 : Nat) : Int) = ((q * 2 ^ by_ d : Nat) : Int) := by simp; exact e1
      omega
    rw [e3, lo_up]
    exact ⟨rfl, by omega⟩
end Go.Proofs.YtelagemniheeoaaDoor.BM
