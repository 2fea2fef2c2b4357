/- Facts for the walk of the document's Cut. -/
import Derived.Test.YtofeckdhhaoobaaDoorDecCr
namespace Go.Proofs.YtofeckdhhaoobaaDoor
open Go.RowKit LM

/-- the box of the parts, and the result's -/
structure CI (w wr : World) (b : Bool) (W B P : ByteArray) (d : Bool) : Prop where
  c0 : wr.cell? ⟨w.heap.size + 1, 0, none⟩ = some (.bool b)
  c1 : wr.cell? ⟨w.heap.size + 1, 1, none⟩ = some (.string W)
  c2 : wr.cell? ⟨w.heap.size + 1, 2, none⟩ = some (.string B)
  c3 : wr.cell? ⟨w.heap.size + 1, 3, none⟩ = some (.string P)
  c4 : wr.cell? ⟨w.heap.size + 1, 4, none⟩ = some (.bool d)
  q0 : wr.cell? ⟨w.heap.size, 0, none⟩ = some (.bool false)
  q1 : wr.cell? ⟨w.heap.size, 1, none⟩ = some (.string ⟨#[]⟩)
  q2 : wr.cell? ⟨w.heap.size, 2, none⟩ = some (.string ⟨#[]⟩)
  q3 : wr.cell? ⟨w.heap.size, 3, none⟩ = some (.string ⟨#[]⟩)
  q4 : wr.cell? ⟨w.heap.size, 4, none⟩ = some (.bool false)
  f1 : ∀ j, wr.frozen? ⟨w.heap.size + 1, j, none⟩ = false
  f0 : ∀ j, wr.frozen? ⟨w.heap.size, j, none⟩ = false
  bw : Below w.heap.size w wr

variable {w wr : World} {b : Bool} {W B P : ByteArray} {d : Bool}
theorem CI.set0 (h : CI w wr b W B P d) (b' : Bool) : CI w (wr.setCell ⟨w.heap.size + 1, 0, none⟩ (.bool b')) b' W B P d := by
  obtain ⟨c0, c1, c2, c3, c4, q0, q1, q2, q3, q4, f1, f0, bw⟩ := h
  exact ⟨by simp [go_sem, c0], by simp [go_sem, c1], by simp [go_sem, c2], by simp [go_sem, c3], by simp [go_sem, c4], by simp [go_sem, q0], by simp [go_sem, q1], by simp [go_sem, q2], by simp [go_sem, q3], by simp [go_sem, q4], fun j => by simp [go_sem, f1], fun j => by simp [go_sem, f0], bw.setCell (by simp) _⟩
theorem CI.set1 (h : CI w wr b W B P d) (x : ByteArray) : CI w (wr.setCell ⟨w.heap.size + 1, 1, none⟩ (.string x)) b x B P d := by
  obtain ⟨c0, c1, c2, c3, c4, q0, q1, q2, q3, q4, f1, f0, bw⟩ := h
  exact ⟨by simp [go_sem, c0], by simp [go_sem, c1], by simp [go_sem, c2], by simp [go_sem, c3], by simp [go_sem, c4], by simp [go_sem, q0], by simp [go_sem, q1], by simp [go_sem, q2], by simp [go_sem, q3], by simp [go_sem, q4], fun j => by simp [go_sem, f1], fun j => by simp [go_sem, f0], bw.setCell (by simp) _⟩
theorem CI.set2 (h : CI w wr b W B P d) (x : ByteArray) : CI w (wr.setCell ⟨w.heap.size + 1, 2, none⟩ (.string x)) b W x P d := by
  obtain ⟨c0, c1, c2, c3, c4, q0, q1, q2, q3, q4, f1, f0, bw⟩ := h
  exact ⟨by simp [go_sem, c0], by simp [go_sem, c1], by simp [go_sem, c2], by simp [go_sem, c3], by simp [go_sem, c4], by simp [go_sem, q0], by simp [go_sem, q1], by simp [go_sem, q2], by simp [go_sem, q3], by simp [go_sem, q4], fun j => by simp [go_sem, f1], fun j => by simp [go_sem, f0], bw.setCell (by simp) _⟩
theorem CI.set3 (h : CI w wr b W B P d) (x : ByteArray) : CI w (wr.setCell ⟨w.heap.size + 1, 3, none⟩ (.string x)) b W B x d := by
  obtain ⟨c0, c1, c2, c3, c4, q0, q1, q2, q3, q4, f1, f0, bw⟩ := h
  exact ⟨by simp [go_sem, c0], by simp [go_sem, c1], by simp [go_sem, c2], by simp [go_sem, c3], by simp [go_sem, c4], by simp [go_sem, q0], by simp [go_sem, q1], by simp [go_sem, q2], by simp [go_sem, q3], by simp [go_sem, q4], fun j => by simp [go_sem, f1], fun j => by simp [go_sem, f0], bw.setCell (by simp) _⟩
theorem CI.set4 (h : CI w wr b W B P d) (x : Bool) : CI w (wr.setCell ⟨w.heap.size + 1, 4, none⟩ (.bool x)) b W B P x := by
  obtain ⟨c0, c1, c2, c3, c4, q0, q1, q2, q3, q4, f1, f0, bw⟩ := h
  exact ⟨by simp [go_sem, c0], by simp [go_sem, c1], by simp [go_sem, c2], by simp [go_sem, c3], by simp [go_sem, c4], by simp [go_sem, q0], by simp [go_sem, q1], by simp [go_sem, q2], by simp [go_sem, q3], by simp [go_sem, q4], fun j => by simp [go_sem, f1], fun j => by simp [go_sem, f0], bw.setCell (by simp) _⟩

def ResC (s : ByteArray) (w : World) (r : Ending) (w' : World) : Prop := Below w.heap.size w w' ∧ ∃ b W B P d ok, r = .returned (.tuple #[.agg #[.bool b, .string W, .string B, .string P, .bool d], .bool ok]) ∧
  (ok = true → cutZ s.data.toList = some ⟨b, W.data.toList, B.data.toList, d, P.data.toList⟩) ∧ (ok = false → cutZ s.data.toList = none)

/-- the slice of digits -/
theorem ext_dgs (s : ByteArray) (a : Nat) : (s.extract a (a + (dgs (s.data.toList.drop a)).length)).data.toList = dgs (s.data.toList.drop a) := by
  rw [Lib.extract_data, Nat.add_sub_cancel_left]
  have h := dgs_aft (s.data.toList.drop a)
  generalize s.data.toList.drop a = X at *
  have h2 := congrArg (List.take (dgs X).length) h
  rw [List.take_left] at h2
  exact h2.symm
theorem aft_drop (s : ByteArray) (a : Nat) : aft (s.data.toList.drop a) = s.data.toList.drop (a + (dgs (s.data.toList.drop a)).length) := by
  rw [← List.drop_drop]
  have h := dgs_aft (s.data.toList.drop a)
  generalize s.data.toList.drop a = X at *
  have h2 := congrArg (List.drop (dgs X).length) h
  rw [List.drop_left] at h2
  exact h2
theorem dgs_le (s : ByteArray) (a : Nat) (h : a ≤ s.size) : a + (dgs (s.data.toList.drop a)).length ≤ s.size := by
  have h1 := dgs_aft (s.data.toList.drop a)
  have h2 := congrArg List.length h1
  have h3 : s.data.toList.length = s.size := by rw [Array.length_toList]; rfl
  rw [List.length_append, List.length_drop, h3] at h2
  omega
theorem dgs_head (s : ByteArray) (a : Nat) (h : 0 < (dgs (s.data.toList.drop a)).length) : ∃ (hs : a < s.size) (t : List UInt8), dgs (s.data.toList.drop a) = s[a]'hs :: t := by
  rcases Nat.lt_or_ge a s.size with hs | hs
  · refine ⟨hs, dgs (s.data.toList.drop (a + 1)), ?_⟩
    rw [drop_at s a hs] at h ⊢
    by_cases hc : isD (s[a]'hs) = true
    · exact (dgs_cons hc).1
    · rw [dgs_no (.inr ⟨_, _, rfl, by simpa using hc⟩)] at h; simp at h
  · rw [List.drop_of_length_le (by rw [Array.length_toList]; exact hs)] at h; simp [dgs] at h
theorem drop_end (s : ByteArray) (a : Nat) (h : ¬ a < s.size) : s.data.toList.drop a = [] := List.drop_of_length_le (by rw [Array.length_toList]; have : s.data.size = s.size := rfl; omega)
theorem nil_iff (s : ByteArray) (a : Nat) (h : a ≤ s.size) : s.data.toList.drop a = [] ↔ a = s.size := by
  rw [List.drop_eq_nil_iff, Array.length_toList]
  have : s.data.size = s.size := rfl
  omega
theorem nil_of_len {X : List UInt8} (h : (dgs X).length = 0) : dgs X = [] := List.eq_nil_of_length_eq_zero h

theorem sign_no (s : ByteArray) (h : ∀ hs : 0 < s.size, s[0].toNat ≠ 45) : minus s.data.toList = false ∧ unsig s.data.toList = s.data.toList.drop 0 := by
  rw [List.drop_zero]
  rcases Nat.eq_zero_or_pos s.size with h0 | h0
  · have := drop_end s 0 (by omega)
    rw [List.drop_zero] at this
    rw [this]; exact ⟨rfl, rfl⟩
  · have h1 := drop_at s 0 h0
    rw [List.drop_zero] at h1
    rw [h1]
    have := h h0
    exact ⟨by simp [minus, this], by simp [unsig, this]⟩
theorem sign_yes (s : ByteArray) (hs : 0 < s.size) (h : s[0].toNat = 45) : minus s.data.toList = true ∧ unsig s.data.toList = s.data.toList.drop 1 := by
  have h1 := drop_at s 0 hs
  rw [List.drop_zero] at h1
  constructor
  · rw [h1]; simp [minus, h]
  · conv => lhs; rw [h1]
    simp [unsig, h]

theorem bad_0 {l : List UInt8} (h : (dgs (unsig l)).length = 0) : cutZ l = none := by
  unfold cutZ; rw [nil_of_len h]; rfl
theorem bad_48 {s : ByteArray} {a : Nat} (hu : unsig s.data.toList = s.data.toList.drop a) (h : 1 < (dgs (s.data.toList.drop a)).length) (hs : a < s.size) (h48 : s[a].toNat = 48) : cutZ s.data.toList = none := by
  obtain ⟨_, t, e⟩ := dgs_head s a (by omega)
  unfold cutZ
  rw [hu, e]
  have ht : t ≠ [] := by intro ht; rw [e, ht] at h; simp at h
  rw [if_pos (by simp [badW, h48, ht])]
theorem good_1 {s : ByteArray} {a : Nat} (hu : unsig s.data.toList = s.data.toList.drop a) (h : 0 < (dgs (s.data.toList.drop a)).length) (h2 : 1 < (dgs (s.data.toList.drop a)).length → ∀ hs : a < s.size, s[a].toNat ≠ 48) : badW (dgs (unsig s.data.toList)) = false := by
  obtain ⟨hs, t, e⟩ := dgs_head s a h
  rw [hu, e]
  by_cases ht : t = []
  · simp [badW, ht]
  · have := h2 (by rw [e]; cases t; exact absurd rfl ht; simp) hs
    simp [badW, this]
theorem cut_some {l l3 l4 B P : List UInt8} {d : Bool} (hb : badW (dgs (unsig l)) = false) (hf : frac (aft (unsig l)) = some (B, l3)) (he : expn l3 = some (d, P, l4)) : cutZ l = if l4 = [] then some ⟨minus l, dgs (unsig l), B, d, P⟩ else none := by
  unfold cutZ; rw [hb, if_neg (by decide), hf]; simp only [he]
theorem cut_fn {l : List UInt8} (hb : badW (dgs (unsig l)) = false) (hf : frac (aft (unsig l)) = none) : cutZ l = none := by
  unfold cutZ; rw [hb, if_neg (by decide), hf]
theorem cut_en {l l3 B : List UInt8} (hb : badW (dgs (unsig l)) = false) (hf : frac (aft (unsig l)) = some (B, l3)) (he : expn l3 = none) : cutZ l = none := by
  unfold cutZ; rw [hb, if_neg (by decide), hf]; simp only [he]

theorem frac_no {s : ByteArray} {a : Nat} (h : ∀ hs : a < s.size, s[a].toNat ≠ 46) : frac (s.data.toList.drop a) = some ([], s.data.toList.drop a) := by
  rcases Nat.lt_or_ge a s.size with hs | hs
  · rw [drop_at s a hs]; unfold frac; simp only [if_neg (h hs)]
  · rw [drop_end s a (by omega)]; rfl
theorem frac_bad {s : ByteArray} {a : Nat} (hs : a < s.size) (h : s[a].toNat = 46) (hn : (dgs (s.data.toList.drop (a + 1))).length = 0) : frac (s.data.toList.drop a) = none := by
  rw [drop_at s a hs]; unfold frac; simp only [if_pos h, nil_of_len hn, if_true]
theorem frac_yes {s : ByteArray} {a : Nat} (hs : a < s.size) (h : s[a].toNat = 46) (hn : ¬ (dgs (s.data.toList.drop (a + 1))).length = 0) : frac (s.data.toList.drop a) = some (dgs (s.data.toList.drop (a + 1)), s.data.toList.drop (a + 1 + (dgs (s.data.toList.drop (a + 1))).length)) := by
  have h0 : ¬ dgs (s.data.toList.drop (a + 1)) = [] := fun e => hn (by rw [e]; rfl)
  rw [drop_at s a hs]; unfold frac; simp only [if_pos h, if_neg h0]; rw [aft_drop]
theorem exp_no {s : ByteArray} {a : Nat} (h : ∀ hs : a < s.size, s[a].toNat ≠ 101 ∧ s[a].toNat ≠ 69) : expn (s.data.toList.drop a) = some (false, [], s.data.toList.drop a) := by
  rcases Nat.lt_or_ge a s.size with hs | hs
  · have := h hs
    rw [drop_at s a hs]; unfold expn; simp only [if_neg (show ¬ ((s[a]'hs).toNat = 101 ∨ (s[a]'hs).toNat = 69) by omega)]
  · rw [drop_end s a (by omega)]; rfl
/-- where the sign of a power leads to -/
def SG (s : ByteArray) (a a' : Nat) (d : Bool) : Prop := sgn (s.data.toList.drop a) = (d, s.data.toList.drop a')
theorem sg_no {s : ByteArray} {a : Nat} (h : ∀ hs : a < s.size, s[a].toNat ≠ 43 ∧ s[a].toNat ≠ 45) : SG s a a false := by
  unfold SG
  rcases Nat.lt_or_ge a s.size with hs | hs
  · have := h hs
    rw [drop_at s a hs]; unfold sgn; simp only [if_neg (show ¬ ((s[a]'hs).toNat = 43 ∨ (s[a]'hs).toNat = 45) by omega)]
  · rw [drop_end s a (by omega)]; rfl
theorem sg_up {s : ByteArray} {a : Nat} (hs : a < s.size) (h : s[a].toNat = 43) : SG s a (a + 1) false := by
  unfold SG; rw [drop_at s a hs]; unfold sgn; simp [h]
theorem sg_down {s : ByteArray} {a : Nat} (hs : a < s.size) (h : s[a].toNat = 45) : SG s a (a + 1) true := by
  unfold SG; rw [drop_at s a hs]; unfold sgn; simp [h]
theorem exp_bad {s : ByteArray} {a a' : Nat} {d : Bool} (hs : a < s.size) (h : s[a].toNat = 101 ∨ s[a].toNat = 69) (hg : SG s (a + 1) a' d) (hn : (dgs (s.data.toList.drop a')).length = 0) : expn (s.data.toList.drop a) = none := by
  unfold SG at hg
  rw [drop_at s a hs]; unfold expn; simp only [if_pos h, hg, nil_of_len hn, if_true]
theorem exp_yes {s : ByteArray} {a a' : Nat} {d : Bool} (hs : a < s.size) (h : s[a].toNat = 101 ∨ s[a].toNat = 69) (hg : SG s (a + 1) a' d) (hn : ¬ (dgs (s.data.toList.drop a')).length = 0) : expn (s.data.toList.drop a) = some (d, dgs (s.data.toList.drop a'), s.data.toList.drop (a' + (dgs (s.data.toList.drop a')).length)) := by
  have h0 : ¬ dgs (s.data.toList.drop a') = [] := fun e => hn (by rw [e]; rfl)
  unfold SG at hg
  rw [drop_at s a hs]; unfold expn; simp only [if_pos h, hg, if_neg h0]; rw [aft_drop]
theorem CI.new {w : World} {b : Bool} : CI w ((w.alloc (.cells #[.bool false, .string ⟨#[]⟩, .string ⟨#[]⟩, .string ⟨#[]⟩, .bool false] 71)).alloc (.cells #[.bool b, .string ⟨#[]⟩, .string ⟨#[]⟩, .string ⟨#[]⟩, .bool false] 71)) b ⟨#[]⟩ ⟨#[]⟩ ⟨#[]⟩ false :=
  ⟨by simp, by simp, by simp, by simp, by simp, by simp, by simp, by simp, by simp, by simp, fun j => by simp, fun j => by simp, ((Below.refl _ _).alloc (Nat.le_refl _) _).alloc (by simp) _⟩
theorem run_int (s : ByteArray) {A : Int} (a : Nat) (hA : A = (a : Int)) (w : World) (hs : s.size ≤ 140737488351232) (ha : a ≤ s.size) :
    Calls Tryd.prog 78 #[.string s, .int .i64 A] w fun e w' => e = .returned (.int .i64 ((dgs (s.data.toList.drop a)).length : Nat)) ∧ w = w' := by
  subst hA; exact run_any s a w hs ha
theorem slice_at {P : Program} (t : TypeId) (ht : P.underlying t = some .string) {s : ByteArray} {A E : Int} (h0 : 0 ≤ A) (h : A ≤ E) (he : E ≤ s.size) :
    ∀ W, (Instr.slice t (.string s) (some (.int .i64 A)) (some (.int .i64 E)) none).run P W = .ok (.string (s.extract A.toNat E.toNat)) W := by
  intro W
  rw [run_slice_string (w := W) t s .i64 .i64 A E ht h0 h he]
theorem bw5 {w wr : World} (h : Below w.heap.size w wr) (v0 v1 v2 v3 v4 : Value) : Below w.heap.size w (((((wr.setCell ⟨w.heap.size, 0, none⟩ v0).setCell ⟨w.heap.size, 1, none⟩ v1).setCell ⟨w.heap.size, 2, none⟩ v2).setCell ⟨w.heap.size, 3, none⟩ v3).setCell ⟨w.heap.size, 4, none⟩ v4) :=
  ((((h.setCell (Nat.le_refl _) _).setCell (Nat.le_refl _) _).setCell (Nat.le_refl _) _).setCell (Nat.le_refl _) _).setCell (Nat.le_refl _) _
end Go.Proofs.YtofeckdhhaoobaaDoor
