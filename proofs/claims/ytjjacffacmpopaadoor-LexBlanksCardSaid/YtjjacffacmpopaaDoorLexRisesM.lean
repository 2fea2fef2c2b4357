/- lex: what the law LexRises looks at; its 'great'. -/
import Derived.Test.YtjjacffacmpopaaDoorLexR
import Derived.Test.YtjjacffacmpopaaDoorLexMathC
namespace Go.Proofs.YtjjacffacmpopaaDoor
open Go.RowKit UM QM LX

theorem infoIntR : (Tryd.prog.info? 3).map (fun i => (i.zero, i.size, i.bytes)) = some (some (.int .i64 0), 1, 8) := by kernel_rfl
theorem tkc_at : ∀ {L : List Tk} {i : Nat} {t : Tk}, L[i]? = some t → (tkc L)[i * 3]? = some (.int .i64 (t.1 : Int)) ∧ (tkc L)[i * 3 + 1]? = some (.string (tx t.2.1)) ∧ (tkc L)[i * 3 + 2]? = some (.int .i64 (t.2.2 : Int))
  | [], _, _, h => by simp at h
  | u :: L, 0, t, h => by
    have : u = t := by simpa using h
    subst this
    exact ⟨rfl, rfl, rfl⟩
  | u :: L, i + 1, t, h => by
    have ih := tkc_at (L := L) (i := i) (t := t) (by simpa using h)
    have e : tkc (u :: L) = [.int .i64 (u.1 : Int), .string (tx u.2.1), .int .i64 (u.2.2 : Int)] ++ tkc L := rfl
    have key : ∀ j, (tkc (u :: L))[j + 3]? = (tkc L)[j]? := fun j => by
      rw [e, List.getElem?_append_right (by simp)]; rfl
    refine ⟨?_, ?_, ?_⟩
    · rw [show (i + 1) * 3 = i * 3 + 3 by omega, key]; exact ih.1
    · rw [show (i + 1) * 3 + 1 = i * 3 + 1 + 3 by omega, key]; exact ih.2.1
    · rw [show (i + 1) * 3 + 2 = i * 3 + 2 + 3 by omega, key]; exact ih.2.2
theorem ck_len {n : Nat} : ∀ {L : List Tk} {lo : Nat} {st : List Nat}, ckT n lo st L = true → L = [] ∨ lo + L.length ≤ n
  | [], _, _, _ => .inl rfl
  | (k, x, a) :: L, lo, st, h => by
    simp only [ckT, Bool.and_eq_true, decide_eq_true_eq] at h
    obtain ⟨h1, h2⟩ := h
    have key : ∀ st', ckT n (a + 1) st' L = true → (L = [] ∨ a + 1 + L.length ≤ n) := fun st' h => ck_len h
    have : L = [] ∨ a + 1 + L.length ≤ n := by
      split at h2
      · exact key _ h2
      split at h2
      · rw [Bool.and_eq_true] at h2; exact key _ h2.2
      split at h2
      · rw [Bool.and_eq_true] at h2; exact key _ h2.2
      split at h2
      · rw [Bool.and_eq_true] at h2; exact key _ h2.2
      · exact key _ h2
    right
    rcases this with rfl | h3
    · simp; omega
    · simp; omega
theorem ck_round {n lo k a : Nat} {st x : List Nat} {L : List Tk} (h : ckT n lo st ((k, x, a) :: L) = true) :
    (lo ≤ a ∧ a < n ∧ 1 ≤ k ∧ k ≤ 11) ∧ (((k = 7 ∨ k = 9) ∧ ckT n (a + 1) (k :: st) L = true) ∨ (k = 11 ∧ ∃ t, st = 7 :: t ∧ ckT n (a + 1) t L = true) ∨ (k = 10 ∧ ∃ t, st = 9 :: t ∧ ckT n (a + 1) t L = true) ∨ (k = 8 ∧ x ≠ [] ∧ ∃ t, st = 7 :: t ∧ ckT n (a + 1) (7 :: t) L = true) ∨ (k ≤ 6 ∧ ckT n (a + 1) st L = true)) := by
  simp only [ckT, Bool.and_eq_true, decide_eq_true_eq] at h
  obtain ⟨h1, h2⟩ := h
  refine ⟨h1, ?_⟩
  have hd : ∀ v, st.head? = some v → ∃ t, st = v :: t ∧ st.tail = t := by
    intro v hv
    cases st with
    | nil => simp at hv
    | cons c t => exact ⟨t, by rw [show c = v by simpa using hv], rfl⟩
  split at h2
  · rename_i hk; exact .inl ⟨hk, h2⟩
  split at h2
  · rename_i hk
    rw [Bool.and_eq_true, decide_eq_true_eq] at h2
    obtain ⟨t, e1, e2⟩ := hd _ h2.1
    exact .inr (.inl ⟨hk, t, e1, by rw [← e2]; exact h2.2⟩)
  split at h2
  · rename_i hk
    rw [Bool.and_eq_true, decide_eq_true_eq] at h2
    obtain ⟨t, e1, e2⟩ := hd _ h2.1
    exact .inr (.inr (.inl ⟨hk, t, e1, by rw [← e2]; exact h2.2⟩))
  split at h2
  · rename_i hk
    rw [Bool.and_eq_true, decide_eq_true_eq] at h2
    obtain ⟨t, e1, e2⟩ := hd _ h2.1.1
    exact .inr (.inr (.inr (.inl ⟨hk, h2.1.2, t, e1, by rw [← e1]; exact h2.2⟩)))
  · exact .inr (.inr (.inr (.inr ⟨by omega, h2⟩)))
theorem tkF_ck (l : List Nat) : ((tkF l).2.2 = 0 → ckT l.length 0 [] (tkF l).1 = true ∧ l.length ≤ 100000) ∧ ((tkF l).2.2 ≠ 0 → (tkF l).1 = [] ∧ (tkF l).2.1 ≤ l.length) := by
  unfold tkF
  by_cases h1 : 100000 < l.length
  · rw [if_pos h1]; exact ⟨fun h => by simp at h, fun _ => ⟨rfl, Nat.zero_le _⟩⟩
  rw [if_neg h1]
  by_cases h2 : vd l < l.length
  · rw [if_pos h2]; exact ⟨fun h => by simp at h, fun _ => ⟨rfl, Nat.le_of_lt h2⟩⟩
  rw [if_neg h2]
  by_cases h3 : (lxR (l.length + 1) [] 0 l).2.2 = 0
  · rw [if_pos h3]
    refine ⟨fun _ => ⟨?_, by omega⟩, fun h => absurd rfl h⟩
    have := lx_ck (l.length + 1) [] 0 l 0 (lxR (l.length + 1) [] 0 l).1 (lxR (l.length + 1) [] 0 l).2.1 Wo.nil (Nat.le_refl _) (Prod.ext rfl (Prod.ext rfl h3))
    rwa [Nat.zero_add] at this
  · rw [if_neg h3]
    refine ⟨fun h => absurd h h3, fun _ => ⟨rfl, ?_⟩⟩
    have := lx_at (l.length + 1) [] 0 l
    rwa [Nat.zero_add] at this
theorem OwnV.push_topI {w : World} {B : Nat} {x : Nat} {t : List Nat} {a : Option Addr} {k : Nat} (h : OwnV w B 3 1 a (x :: t).length k (cs .i64 (x :: t).reverse)) : ∃ b, a = some ⟨b, 0, none⟩ ∧ w.cell? ⟨b, t.length, none⟩ = some (.int .i64 (x : Int)) ∧ t.length + 1 ≤ k ∧ OwnV w B 3 1 (some ⟨b, 0, none⟩) t.length k (cs .i64 t.reverse) := by
  rcases h.shape with ⟨_, _, h0, _⟩ | ⟨g', cur, h1, _⟩
  · cases h0
  · subst h1
    refine ⟨g', rfl, h.cellAt ?_, by have := h.cap.1; simpa using this, ?_⟩
    · rw [List.reverse_cons, cs_append, List.getElem?_append_right (by simp [cs]), cs_length, List.length_reverse, Nat.sub_self]; rfl
    · rw [List.reverse_cons, cs_append] at h
      exact ownsRow_pop (by rw [cs_length, List.length_reverse, Nat.mul_one]) h
theorem drop_get {α : Type} {L : List α} {i : Nat} {t : α} (h : L[i]? = some t) : L.drop i = t :: L.drop (i + 1) := by
  obtain ⟨hl, rfl⟩ := List.getElem?_eq_some_iff.1 h
  exact List.drop_eq_getElem_cons hl
theorem tx_ne {x : List Nat} (h : x ≠ []) : tx x ≠ ⟨#[]⟩ := by
  intro he
  have := congrArg ByteArray.size he
  cases x with
  | nil => exact h rfl
  | cons c u => simp [tx, ByteArray.size] at this
/-- is the text longer than the laws look at? -/
def gre (n : Nat) : Bool := decide (3000 < n) && decide (n ≤ 100000)
set_option maxRecDepth 100000 in
set_option maxHeartbeats 1000000 in
theorem great14_any (s : ByteArray) (w : World) : Calls Tryd.prog 12 #[.string s] w fun e w' => e = .returned (.bool (gre s.size)) ∧ w = w' := by
  unfold gre
  by_cases h1 : 3000 < s.size
  · by_cases h2 : s.size ≤ 100000
    · have h1' : (3000 : Int) < (s.size : Int) := by omega
      have h2' : (s.size : Int) ≤ 100000 := by omega
      rw [decide_eq_true h1, decide_eq_true h2]
      go_enter Tryd.func12, Tryd.ntmps12
      go_wp2
      go_ret
      exact ⟨rfl, rfl⟩
    · have h1' : (3000 : Int) < (s.size : Int) := by omega
      have h2' : ¬ (s.size : Int) ≤ 100000 := by omega
      rw [decide_eq_true h1, decide_eq_false h2]
      go_enter Tryd.func12, Tryd.ntmps12
      go_wp2
      go_ret
      exact ⟨rfl, rfl⟩
  · have h1' : ¬ (3000 : Int) < (s.size : Int) := by omega
    rw [decide_eq_false h1, Bool.false_and]
    go_enter Tryd.func12, Tryd.ntmps12
    go_wp2
    go_ret
    exact ⟨rfl, rfl⟩
end Go.Proofs.YtjjacffacmpopaaDoor
