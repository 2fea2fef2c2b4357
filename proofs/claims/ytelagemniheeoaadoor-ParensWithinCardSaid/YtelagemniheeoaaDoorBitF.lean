/- What the program's masks are: the document's, byte by byte. Plain mathematics. -/
import Derived.Test.YtelagemniheeoaaDoorBitC
import Derived.Test.YtelagemniheeoaaDoorBitE
namespace Go.Proofs.YtelagemniheeoaaDoor
open Go.RowKit BM

theorem classes (P : Nat → Bool → Bool → Prop) (h : ∀ k ∈ [34, 92, 91, 123, 93, 125, 58, 44, 32, 9, 10, 13], ∀ o i, P k o i)
    (hx : ∀ c, c ≠ 34 → c ≠ 92 → c ≠ 91 → c ≠ 123 → c ≠ 93 → c ≠ 125 → c ≠ 58 → c ≠ 44 → c ≠ 32 → c ≠ 9 → c ≠ 10 → c ≠ 13 → ∀ o i, P c o i) (c : Nat) (o i : Bool) : P c o i := by
  by_cases hc : c ∈ [34, 92, 91, 123, 93, 125, 58, 44, 32, 9, 10, 13]
  · exact h c hc o i
  · simp at hc
    obtain ⟨a, b, c1, d, e, f, g, h1, h2, h3, h4, h5⟩ := hc
    exact hx c a b c1 d e f g h1 h2 h3 h4 h5 o i
theorem w_q (c : Nat) (o i : Bool) : (((what c o i : Nat) : Int) == 113) = isQ c o := by
  apply classes (fun c o i => (((what c o i : Nat) : Int) == 113) = isQ c o)
  · decide
  · intro c a b c1 d e f g h1 h2 h3 h4 h5 o i; simp [what, isQ, a, c1, d, e, f, g, h1, h2, h3, h4, h5]
theorem w_open (c : Nat) (o i : Bool) : (((what c o i : Nat) : Int) == 111) = ((decide (c = 91) || decide (c = 123)) && !nextIn c o i) := by
  apply classes (fun c o i => (((what c o i : Nat) : Int) == 111) = ((decide (c = 91) || decide (c = 123)) && !nextIn c o i))
  · decide
  · intro c a b c1 d e f g h1 h2 h3 h4 h5 o i; simp [what, isQ, nextIn, a, c1, d, e, f, g, h1, h2, h3, h4, h5]
theorem w_close (c : Nat) (o i : Bool) : (((what c o i : Nat) : Int) == 99) = ((decide (c = 93) || decide (c = 125)) && !nextIn c o i) := by
  apply classes (fun c o i => (((what c o i : Nat) : Int) == 99) = ((decide (c = 93) || decide (c = 125)) && !nextIn c o i))
  · decide
  · intro c a b c1 d e f g h1 h2 h3 h4 h5 o i; simp [what, isQ, nextIn, a, c1, d, e, f, g, h1, h2, h3, h4, h5]
theorem w_colon (c : Nat) (o i : Bool) : (((what c o i : Nat) : Int) == 58) = (decide (c = 58) && !nextIn c o i) := by
  apply classes (fun c o i => (((what c o i : Nat) : Int) == 58) = (decide (c = 58) && !nextIn c o i))
  · decide
  · intro c a b c1 d e f g h1 h2 h3 h4 h5 o i; simp [what, isQ, nextIn, a, c1, d, e, f, g, h1, h2, h3, h4, h5]
theorem w_comma (c : Nat) (o i : Bool) : (((what c o i : Nat) : Int) == 44) = (decide (c = 44) && !nextIn c o i) := by
  apply classes (fun c o i => (((what c o i : Nat) : Int) == 44) = (decide (c = 44) && !nextIn c o i))
  · decide
  · intro c a b c1 d e f g h1 h2 h3 h4 h5 o i; simp [what, isQ, nextIn, a, c1, d, e, f, g, h1, h2, h3, h4, h5]
theorem w_space (c : Nat) (o i : Bool) : (((what c o i : Nat) : Int) == 32) = ((decide (c = 32) || decide (c = 9) || decide (c = 10) || decide (c = 13)) && !nextIn c o i) := by
  apply classes (fun c o i => (((what c o i : Nat) : Int) == 32) = ((decide (c = 32) || decide (c = 9) || decide (c = 10) || decide (c = 13)) && !nextIn c o i))
  · decide
  · intro c a b c1 d e f g h1 h2 h3 h4 h5 o i; simp [what, isQ, nextIn, a, c1, d, e, f, g, h1, h2, h3, h4, h5]

theorem bm_bit {l : List Nat} (c : Nat) {j : Nat} (hl : l.length ≤ 64) (hj : j < 64) : (bm l c).getLsbD j = (decide (j < l.length) && decide (byte l j = c)) := by
  unfold bm
  rw [mk_bit, show min l.length 64 = l.length by omega]
  rw [show isAt l c j = decide (byte l j = c) from rfl]; simp [hj]
theorem esc_st {l : List Nat} {o : Bool} (hl : l.length ≤ 64) : ∀ j, j ≤ l.length → escAt (bm l 92) o j = stO l o j := by
  intro j
  induction j with
  | zero => intro _; rfl
  | succ j ih =>
    intro hj
    rw [escAt, ih (by omega), bm_bit 92 hl (by omega)]
    simp [stO, nextOdd, show j < l.length by omega]
theorem sQ_bit {l : List Nat} {o : Bool} {j : Nat} (hl : l.length ≤ 64) (hj : j < 64) : (sQ l o).getLsbD j = (decide (j < l.length) && isQ (byte l j) (stO l o j)) := by
  unfold sQ andNot
  rw [BitVec.getLsbD_and, BitVec.getLsbD_not, bm_bit 34 hl hj, escM_bit _ _ _ hj]
  by_cases h : j < l.length
  · rw [esc_st hl j (by omega)]; simp [h, hj, isQ]
  · simp [h]
theorem in_st {l : List Nat} {o i : Bool} (hl : l.length ≤ 64) : ∀ j, j ≤ l.length → inAt (sQ l o) i j = stI l o i j := by
  intro j
  induction j with
  | zero => intro _; rfl
  | succ j ih =>
    intro hj
    rw [inAt, ih (by omega), sQ_bit hl (by omega)]
    simp only [stI, nextIn, show j < l.length by omega, decide_true, Bool.true_and]
    cases isQ (byte l j) (stO l o j) <;> cases stI l o i j <;> rfl
theorem sI_bit {l : List Nat} {o i : Bool} {j : Nat} (hl : l.length ≤ 64) (hj : j < l.length) : (sI l o i).getLsbD j = nextIn (byte l j) (stO l o j) (stI l o i j) := by
  unfold sI
  rw [ins_bit _ _ _ (by omega), in_st hl (j + 1) (by omega)]; rfl
theorem n_bit (x y : BitVec 64) {j : Nat} (hj : j < 64) : (andNot x y).getLsbD j = (x.getLsbD j && !y.getLsbD j) := by
  unfold andNot; rw [BitVec.getLsbD_and, BitVec.getLsbD_not]; simp [hj]
/-- a mask of bytes outside strings is the document's -/
theorem out_mk {l : List Nat} {o i : Bool} {x : BitVec 64} {f : Nat → Bool} {k : Int} (hl : l.length ≤ 64) (hx : ∀ j, j < 64 → x.getLsbD j = (decide (j < l.length) && f (byte l j)))
    (hw : ∀ c o i, (((what c o i : Nat) : Int) == k) = (f c && !nextIn c o i)) : andNot x (sI l o i) = mk (isW l o i k) l.length := by
  apply BM.ext; intro j hj
  rw [n_bit _ _ hj, hx j hj, mk_bit]
  by_cases h : j < l.length
  · rw [sI_bit hl h]; simp [h, hj, isW, wh, hw]
  · simp [h]
theorem or2_bit {l : List Nat} (s : ByteArray) {j : Nat} (hl : l.length ≤ 64) (hj : j < 64) (n : Nat) : (orTo l s (n + 1)).getLsbD j = ((orTo l s n).getLsbD j || (decide (j < l.length) && decide (byte l j = ((s.data.toList[n]?.getD 0).toNat)))) := by
  rw [orTo, BitVec.getLsbD_or, bm_bit _ hl hj]
theorem or0_bit (l : List Nat) (s : ByteArray) (j : Nat) : (orTo l s 0).getLsbD j = false := by simp [orTo]
theorem same_masks (l : List Nat) (o i : Bool) (hl : l.length ≤ 64) :
    sQ l o = mk (isW l o i 113) l.length ∧ mIn l o i = mk (inW l o i) l.length ∧ mOpen l o i = mk (isW l o i 111) l.length ∧ mClose l o i = mk (isW l o i 99) l.length ∧ mColon l o i = mk (isW l o i 58) l.length ∧ mComma l o i = mk (isW l o i 44) l.length ∧ mSpace l o i = mk (isW l o i 32) l.length := by
  refine ⟨?_, ?_, ?_, ?_, ?_, ?_, ?_⟩
  · apply BM.ext; intro j hj
    rw [sQ_bit hl hj, mk_bit]; simp [hj, isW, wh, w_q]
  · apply BM.ext; intro j hj
    unfold mIn
    rw [BitVec.getLsbD_and, ones_bit _ _ hl hj, mk_bit]
    by_cases h : j < l.length
    · rw [sI_bit hl h]; simp [h, hj, inW, stI]
    · simp [h]
  · exact out_mk (f := fun c => decide (c = 91) || decide (c = 123)) hl (fun j hj => by rw [or2_bit _ hl hj, or2_bit _ hl hj, or0_bit]; cases decide (j < l.length) <;> simp) (fun c o i => w_open c o i)
  · exact out_mk (f := fun c => decide (c = 93) || decide (c = 125)) hl (fun j hj => by rw [or2_bit _ hl hj, or2_bit _ hl hj, or0_bit]; cases decide (j < l.length) <;> simp) (fun c o i => w_close c o i)
  · exact out_mk (f := fun c => decide (c = 58)) hl (fun j hj => bm_bit 58 hl hj) (fun c o i => w_colon c o i)
  · exact out_mk (f := fun c => decide (c = 44)) hl (fun j hj => bm_bit 44 hl hj) (fun c o i => w_comma c o i)
  · exact out_mk (f := fun c => decide (c = 32) || decide (c = 9) || decide (c = 10) || decide (c = 13)) hl (fun j hj => by rw [or2_bit _ hl hj, or2_bit _ hl hj, or2_bit _ hl hj, or2_bit _ hl hj, or0_bit]; cases decide (j < l.length) <;> simp) (fun c o i => w_space c o i)
theorem same_carry (l : List Nat) (o i : Bool) (hl : l.length ≤ 64) : cOdd l o = stO l o l.length ∧ cIn l o i = stI l o i l.length := by
  constructor
  · unfold cOdd
    by_cases h : l.length < 64
    · rw [if_pos h, ← esc_st hl _ (Nat.le_refl _)]; exact escM_bit _ _ _ h
    · have e : l.length = 64 := by omega
      rw [if_neg h, escC_at, ← esc_st hl _ (Nat.le_refl _), e]
  · unfold cIn bitAt sI
    by_cases h : l.length < 64
    · rw [if_pos h, ins_bit _ _ _ h, inAt, in_st hl _ (Nat.le_refl _), sQ_bit hl h]; simp
    · have e : l.length = 64 := by omega
      rw [if_neg h, ins_bit _ _ _ (by omega), ← in_st hl _ (Nat.le_refl _), e]
end Go.Proofs.YtelagemniheeoaaDoor
