/- lex: a token is read alike with a line's end behind it. Nothing of the program. -/
import Derived.Test.YtjjacffacmpopaaDoorLexMathC
namespace Go.Proofs.YtjjacffacmpopaaDoor.LX
open Go.Proofs.YtjjacffacmpopaaDoor UM QM

theorem runL_nl {p : Nat → Bool} (hp : p 10 = false) (x : List Nat) : ∀ r : List Nat, runL p (r ++ 10 :: x) = runL p r
  | [] => by simp [runL, hp]
  | c :: t => by
    simp only [List.cons_append, runL]
    split
    · rw [runL_nl hp x t]
    · rfl
theorem isLt10 : isLt 10 = false := by decide
theorem isDg10 : isDg 10 = false := by decide
theorem isNm10 : isNm 10 = false := by decide
theorem nmR_nl (x : List Nat) : ∀ r : List Nat, nmR (r ++ 10 :: x) = nmR r
  | [] => by simp [nmR, isLt10]
  | c :: t => by simp only [List.cons_append, nmR]; rw [runL_nl isNm10]
theorem dgR_nl (r x : List Nat) : dgR (r ++ 10 :: x) = dgR r := runL_nl isDg10 x r
theorem get_nl {r : List Nat} {n c : Nat} (x : List Nat) (hn : n ≤ r.length) (hc : c ≠ 10) : (r ++ 10 :: x)[n]? = some c ↔ r[n]? = some c := by
  rcases Nat.lt_or_ge n r.length with h | h
  · rw [List.getElem?_append_left h]
  · have : n = r.length := by omega
    subst this
    rw [List.getElem?_append_right (Nat.le_refl _), Nat.sub_self, List.getElem?_eq_none (Nat.le_refl _)]
    simp
    exact fun h => hc h.symm
theorem drop_nl {r : List Nat} {m : Nat} (x : List Nat) (hm : m ≤ r.length) : (r ++ 10 :: x).drop m = r.drop m ++ 10 :: x := List.drop_append_of_le_length hm
theorem sgR_nl (x : List Nat) : ∀ r : List Nat, sgR (r ++ 10 :: x) = sgR r
  | [] => by simp [sgR]
  | c :: t => rfl
theorem dbR_nl {r : List Nat} {n m : Nat} (x : List Nat) (hm : m ≤ r.length) : dbR (r ++ 10 :: x) n m = dbR r n m := by
  unfold dbR; rw [drop_nl x hm, dgR_nl]
theorem get_le {r : List Nat} {n c : Nat} (h : r[n]? = some c) : n < r.length := by
  obtain ⟨h, _⟩ := List.getElem?_eq_some_iff.1 h; exact h
theorem nu2_nl (r x : List Nat) : nu2 (r ++ 10 :: x) = nu2 r := by
  unfold nu2
  rw [dgR_nl]
  have e := get_nl (r := r) (c := 46) x (dgR_le r) (by decide)
  by_cases h : r[dgR r]? = some 46
  · rw [if_pos (e.2 h), if_pos h, dbR_nl x (get_le h)]
  · rw [if_neg (fun h' => h (e.1 h')), if_neg h]
theorem nuR_nl (r x : List Nat) : nuR (r ++ 10 :: x) = nuR r := by
  unfold nuR
  rw [nu2_nl]
  have e1 := get_nl (r := r) (c := 101) x (nu2_le r) (by decide)
  have e2 := get_nl (r := r) (c := 69) x (nu2_le r) (by decide)
  by_cases h : r[nu2 r]? = some 101 ∨ r[nu2 r]? = some 69
  · have hl : nu2 r + 1 ≤ r.length := by rcases h with h | h <;> exact get_le h
    rw [if_pos (h.imp e1.2 e2.2), if_pos h, drop_nl x hl, sgR_nl, dbR_nl x (by have := sgR_le (r.drop (nu2 r + 1)); rw [List.length_drop] at this; omega)]
  · rw [if_neg (fun h' => h (h'.imp e1.1 e2.1)), if_neg h]
theorem bkR_nl (x : List Nat) : ∀ (b : Bool) (r : List Nat), (bkR b r < r.length → bkR b (r ++ 10 :: x) = bkR b r) ∧ (bkR b r = r.length → bkR b (r ++ 10 :: x) = r.length + 1 + bkR false x)
  | true, [] => ⟨fun h => by simp at h, fun _ => by simp [bkR]; omega⟩
  | false, [] => ⟨fun h => by simp at h, fun _ => by simp [bkR]; omega⟩
  | true, c :: t => by
    have h1 := bkR_nl x true t; have h2 := bkR_nl x false t
    simp only [List.cons_append, bkR, List.length_cons]
    by_cases hc : c = 10
    · simp only [if_pos hc]
      exact ⟨fun h => by rw [h2.1 (by omega)], fun h => by rw [h2.2 (by omega)]; omega⟩
    · simp only [if_neg hc]
      exact ⟨fun h => by rw [h1.1 (by omega)], fun h => by rw [h1.2 (by omega)]; omega⟩
  | false, c :: t => by
    have h1 := bkR_nl x true t; have h2 := bkR_nl x false t
    simp only [List.cons_append, bkR, List.length_cons]
    by_cases hc : c = 32 ∨ c = 9 ∨ c = 10 ∨ c = 13
    · simp only [if_pos hc]
      exact ⟨fun h => by rw [h2.1 (by omega)], fun h => by rw [h2.2 (by omega)]; omega⟩
    · simp only [if_neg hc]
      by_cases hd : c = 35
      · simp only [if_pos hd]
        exact ⟨fun h => by rw [h1.1 (by omega)], fun h => by rw [h1.2 (by omega)]; omega⟩
      · simp only [if_neg hd]
        exact ⟨fun _ => trivial, fun h => by omega⟩
theorem pfx_nl (x : List Nat) : ∀ {s : List Nat}, 10 ∉ s → ∀ r : List Nat, pfx s (r ++ 10 :: x) = pfx s r
  | [], _, _ => by simp [pfx]
  | a :: s, h, [] => by
    have : (10 == a) = false := by rw [beq_eq_false_iff_ne]; intro e; exact h (by rw [← e]; exact List.mem_cons_self ..)
    simp [pfx, this]
  | a :: s, h, b :: r => by
    simp only [List.cons_append, pfx]
    rw [pfx_nl x (fun h' => h (List.mem_cons_of_mem _ h')) r]
theorem fsF_nl (x : List Nat) : ∀ {l : List (List Nat)}, (∀ s ∈ l, 10 ∉ s) → ∀ r : List Nat, fsF l (r ++ 10 :: x) = fsF l r
  | [], _, _ => rfl
  | s :: l, h, r => by
    simp only [fsF]
    rw [pfx_nl x (h s (List.mem_cons_self ..)), fsF_nl x (fun s' hs => h s' (List.mem_cons_of_mem _ hs))]
theorem sgnR_nl (r x : List Nat) : sgnR (r ++ 10 :: x) = sgnR r := fsF_nl x (by decide) r
theorem take_nl {r : List Nat} {n : Nat} (x : List Nat) (h : n ≤ r.length) : (r ++ 10 :: x).take n = r.take n := List.take_append_of_le_length h
theorem tkR_nl (op : List Nat) (c : Nat) (t x : List Nat) : tkR op (c :: t ++ 10 :: x) = tkR op (c :: t) := by
  have e1 := nmR_nl x (c :: t); have e2 := nuR_nl (c :: t) x; have e3 := nmR_nl x t; have e4 := sgnR_nl (c :: t) x
  rw [List.cons_append] at e1 e2 e4 ⊢
  simp only [tkR]
  rw [e1, e2, e3, e4]
  have k1 := take_nl x (nmR_le (c :: t)); have k2 := take_nl x (nuR_le (c :: t)); have k3 := take_nl x (nmR_le t)
  have k4 := take_nl (r := c :: t) (n := nmR t + 1) x (by have := nmR_le t; simp; omega)
  rw [List.cons_append] at k1 k2 k4
  rw [k1, k2, k3, k4]
end Go.Proofs.YtjjacffacmpopaaDoor.LX

/- lex: the pieces of a text are read alike whatever stands behind it. Nothing of the program. -/
namespace Go.Proofs.YtjjacffacmpopaaDoor.LX
open Go.Proofs.YtjjacffacmpopaaDoor UM QM

theorem ecR_nil : ∀ f, ecR f [] = 0
  | 0 => rfl
  | _ + 1 => rfl
theorem pcR_nil : ∀ f, (pcR f []).1 = 5
  | 0 => by simp [pcR]
  | _ + 1 => by simp [pcR]
theorem ecR_app (x : List Nat) : ∀ (f : Nat) (r : List Nat) (f' : Nat), r.length ≤ f → f ≤ f' → ecR f r < r.length → ecR f' (r ++ x) = ecR f r
  | 0, r, _, h, _, h2 => by omega
  | f + 1, [], _, _, _, h2 => by simp [ecR] at h2
  | f + 1, c :: t, f', h, hf, h2 => by
    obtain ⟨g, rfl⟩ : ∃ g, f' = g + 1 := ⟨f' - 1, by omega⟩
    simp only [List.cons_append, ecR] at h2 ⊢
    by_cases hc : c = 92
    · simp only [if_pos hc] at h2 ⊢
      cases t with
      | nil =>
        rw [if_neg (by simp), if_neg (by simp), List.drop_nil, ecR_nil] at h2
        simp at h2
      | cons d u =>
        simp only [List.cons_append, List.head?_cons, List.drop_succ_cons, List.drop_zero, List.length_cons] at h h2 ⊢
        by_cases h40 : some d = some 40
        · rw [if_pos h40, if_pos h40]
        · rw [if_neg h40] at h2 ⊢
          rw [if_neg h40]
          by_cases hu : some d = some 117
          · rw [if_pos hu] at h2 ⊢
            rw [if_pos hu]
            rw [List.drop_append_of_le_length (by omega), ecR_app x f (u.drop 4) g (by rw [List.length_drop]; omega) (by omega) (by rw [List.length_drop]; omega)]
          · rw [if_neg hu] at h2 ⊢
            rw [if_neg hu]
            rw [ecR_app x f u g (by omega) (by omega) (by omega)]
    · simp only [if_neg hc]
theorem row_app {r : List Nat} (x : List Nat) (h : ecR r.length r < r.length) : rowR (r ++ x) = rowR r := by
  unfold rowR
  rw [ecR_app x r.length r (r ++ x).length (Nat.le_refl _) (by simp) h, List.take_append_of_le_length (Nat.le_of_lt h)]
theorem rd_app {r : List Nat} (x : List Nat) (h : ecR r.length r < r.length) : rdR (r ++ x) = rdR r := by
  unfold rdR; rw [row_app x h]
theorem pcR_app (x : List Nat) : ∀ (f : Nat) (r : List Nat) (f' : Nat), r.length ≤ f → f ≤ f' → (pcR f r).1 ≤ 1 → pcR f' (r ++ x) = pcR f r
  | 0, r, _, _, _, h2 => by simp [pcR] at h2
  | f + 1, [], _, _, _, h2 => by simp [pcR] at h2
  | f + 1, c :: t, f', h, hf, h2 => by
    obtain ⟨g, rfl⟩ : ∃ g, f' = g + 1 := ⟨f' - 1, by omega⟩
    rw [List.length_cons] at h
    have e : c :: (t ++ x) = (c :: t) ++ x := rfl
    simp only [List.cons_append, pcR] at h2 ⊢
    by_cases h34 : c = 34
    · rw [if_pos h34, if_pos h34]
    rw [if_neg h34] at h2 ⊢
    rw [if_neg h34]
    by_cases h40 : c = 92 ∧ t.head? = some 40
    · have h40' : c = 92 ∧ (t ++ x).head? = some 40 := by
        cases t with
        | nil => simp at h40
        | cons d u => exact h40
      rw [if_pos h40, if_pos h40']
    rw [if_neg h40] at h2
    rw [if_neg h40]
    by_cases h92 : c = 92
    · rw [if_pos h92] at h2 ⊢
      by_cases he : (rdR (c :: t)).2.2 = 0
      · rw [if_pos he] at h2
        have h3 : (pcR f ((c :: t).drop (rowR (c :: t)).length)).1 ≤ 1 := h2
        have hlt : ecR (c :: t).length (c :: t) < (c :: t).length := by
          rcases Nat.lt_or_ge (ecR (c :: t).length (c :: t)) (c :: t).length with h' | h'
          · exact h'
          · have e1 : rowR (c :: t) = c :: t := by unfold rowR; exact List.take_of_length_le h'
            rw [e1, List.drop_length, pcR_nil] at h3
            omega
        have hec : 1 ≤ (rowR (c :: t)).length := by
          have ht : t.head? ≠ some 40 := fun h => h40 ⟨h92, h⟩
          have : 1 ≤ ecR (c :: t).length (c :: t) := by
            simp only [List.length_cons, ecR]
            rw [if_pos h92, if_neg ht]
            split <;> omega
          unfold rowR; rw [List.length_take]; omega
        have hrl : (rowR (c :: t)).length ≤ (c :: t).length := by unfold rowR; rw [List.length_take]; omega
        have h40' : ¬ (c = 92 ∧ (t ++ x).head? = some 40) := by
          intro h'
          cases t with
          | nil => simp [ecR, h92] at hlt
          | cons d u => exact h40 h'
        rw [if_neg h40', if_pos h92, e, rd_app x hlt, row_app x hlt, if_pos he, if_pos he, List.drop_append_of_le_length hrl]
        have hl2 : ((c :: t).drop (rowR (c :: t)).length).length ≤ f := by rw [List.length_drop, List.length_cons]; omega
        rw [pcR_app x f _ g hl2 (by omega) h3]
      · rw [if_neg he] at h2
        split at h2 <;> simp at h2
    · rw [if_neg h92] at h2 ⊢
      have h40' : ¬ (c = 92 ∧ (t ++ x).head? = some 40) := fun h' => h92 h'.1
      rw [if_neg h40', if_neg h92, pcR_app x f t g (by omega) (by omega) h2]
end Go.Proofs.YtjjacffacmpopaaDoor.LX

/- lex: brackets left open at the bottom change no token. Nothing of the program. -/
namespace Go.Proofs.YtjjacffacmpopaaDoor.LX
open Go.Proofs.YtjjacffacmpopaaDoor UM QM

/-- so many open round brackets -/
def bo (n : Nat) : List Nat := List.replicate n 3
theorem inn_bo (op : List Nat) (n : Nat) : (op = [] ∧ (inn (op ++ bo n) = 0 ∨ inn (op ++ bo n) = 3)) ∨ (op ≠ [] ∧ inn (op ++ bo n) = inn op) := by
  cases op with
  | nil =>
    left
    refine ⟨rfl, ?_⟩
    cases n with
    | zero => left; rfl
    | succ m => right; rfl
  | cons c t => right; exact ⟨by simp, rfl⟩
theorem count_bo (op : List Nat) (n : Nat) : (op ++ bo n).count 1 = op.count 1 := by
  unfold bo
  rw [List.count_append, List.count_replicate, if_neg (by decide), Nat.add_zero]
theorem inn1_bo (op : List Nat) (n : Nat) : inn (op ++ bo n) = 1 ↔ inn op = 1 := by
  rcases inn_bo op n with ⟨rfl, h | h⟩ | ⟨_, h⟩
  · rw [h]; simp [inn]
  · rw [h]; simp [inn]
  · rw [h]
theorem inn2_bo (op : List Nat) (n : Nat) : inn (op ++ bo n) = 2 ↔ inn op = 2 := by
  rcases inn_bo op n with ⟨rfl, h | h⟩ | ⟨_, h⟩
  · rw [h]; simp [inn]
  · rw [h]; simp [inn]
  · rw [h]
theorem skR_bo (op r : List Nat) (n : Nat) : skR (op ++ bo n) r = skR op r := by
  unfold skR
  by_cases h : inn op = 1
  · rw [if_pos h, if_pos ((inn1_bo op n).2 h)]
  · rw [if_neg h, if_neg (fun h' => h ((inn1_bo op n).1 h'))]
/-- what is told of a token is the same; what is open behind it is so, but for the bottom -/
theorem tkR_bo (op r : List Nat) (n : Nat) : ∃ m, tkR (op ++ bo n) r = ((tkR op r).1, (tkR op r).2.1, (tkR op r).2.2.1, (tkR op r).2.2.2.1, (tkR op r).2.2.2.2 ++ bo m) := by
  cases r with
  | nil => exact ⟨n, rfl⟩
  | cons c t =>
    simp only [tkR]
    rw [count_bo]
    by_cases q1 : isLt c = true
    · simp only [if_pos q1]; exact ⟨n, rfl⟩
    simp only [if_neg q1]
    by_cases q2 : isDg c = true
    · simp only [if_pos q2]; exact ⟨n, rfl⟩
    simp only [if_neg q2]
    by_cases q3 : c = 46 ∧ 0 < nmR t
    · simp only [if_pos q3]; exact ⟨n, rfl⟩
    simp only [if_neg q3]
    by_cases q4 : c = 36 ∧ 0 < nmR t
    · simp only [if_pos q4]; exact ⟨n, rfl⟩
    simp only [if_neg q4]
    by_cases q5 : c = 64 ∧ 0 < nmR t
    · simp only [if_pos q5]; exact ⟨n, rfl⟩
    simp only [if_neg q5]
    by_cases q6 : c = 34
    · simp only [if_pos q6]
      by_cases q7 : op.count 1 = 50
      · simp only [if_pos q7]; exact ⟨n, rfl⟩
      · simp only [if_neg q7]; exact ⟨n, rfl⟩
    simp only [if_neg q6]
    by_cases q8 : sgnR (c :: t) = []
    · simp only [if_pos q8]; exact ⟨n, rfl⟩
    simp only [if_neg q8]
    by_cases p1 : sgnR (c :: t) = [41] ∧ inn op = 2
    · have p1' : sgnR (c :: t) = [41] ∧ inn (op ++ bo n) = 2 := ⟨p1.1, (inn2_bo op n).2 p1.2⟩
      rw [if_pos p1', if_pos p1]
      cases op with
      | nil => simp [inn] at p1
      | cons a u => exact ⟨n, rfl⟩
    have p1' : ¬ (sgnR (c :: t) = [41] ∧ inn (op ++ bo n) = 2) := fun h => p1 ⟨h.1, (inn2_bo op n).1 h.2⟩
    rw [if_neg p1', if_neg p1]
    by_cases p2 : sgnR (c :: t) = [41] ∧ inn op = 3
    · cases op with
      | nil => simp [inn] at p2
      | cons a u =>
        have p2' : sgnR (c :: t) = [41] ∧ inn (a :: u ++ bo n) = 3 := ⟨p2.1, p2.2⟩
        rw [if_pos p2', if_pos p2]
        exact ⟨n, rfl⟩
    rw [if_neg p2]
    by_cases p3 : sgnR (c :: t) = [41] ∧ inn (op ++ bo n) = 3
    · rw [if_pos p3]
      rcases inn_bo op n with ⟨rfl, h | h⟩ | ⟨_, h⟩
      · rw [h] at p3; exact absurd p3.2 (by decide)
      · cases n with
        | zero => simp [bo, inn] at h
        | succ m =>
          refine ⟨m, ?_⟩
          rw [if_neg (by rw [p3.1]; decide), p3.1]
          rfl
      · exact absurd ⟨p3.1, by rw [← h]; exact p3.2⟩ p2
    rw [if_neg p3]
    by_cases p4 : sgnR (c :: t) = [40]
    · rw [if_pos p4, if_pos p4]; exact ⟨n, rfl⟩
    · rw [if_neg p4, if_neg p4]; exact ⟨n, rfl⟩
theorem lxR_bo : ∀ (f : Nat) (op : List Nat) (p : Nat) (r : List Nat) (n : Nat), lxR f (op ++ bo n) p r = lxR f op p r
  | 0, _, _, _, _ => rfl
  | f + 1, op, p, r, n => by
    simp only [lxR]
    rw [skR_bo, count_bo]
    by_cases h1 : r.drop (skR op r) = []
    · rw [if_pos h1, if_pos h1]
    rw [if_neg h1, if_neg h1]
    by_cases hi : inn op = 1
    · rw [if_pos hi, if_pos ((inn1_bo op n).2 hi)]
      cases op with
      | nil => simp [inn] at hi
      | cons a u =>
        have e1 : (a :: u ++ bo n).tail = u ++ bo n := rfl
        have e2 : (2 :: (a :: u ++ bo n)) = (2 :: a :: u) ++ bo n := rfl
        rw [e1, e2, lxR_bo f u, lxR_bo f (2 :: a :: u)]
        rfl
    · rw [if_neg hi, if_neg (fun h' => hi ((inn1_bo op n).1 h'))]
      obtain ⟨m, hm⟩ := tkR_bo op (r.drop (skR op r)) n
      rw [hm]
      simp only
      rw [lxR_bo f]
end Go.Proofs.YtjjacffacmpopaaDoor.LX

/- lex: two texts with a line's end between. Nothing of the program. -/
namespace Go.Proofs.YtjjacffacmpopaaDoor.LX
open Go.Proofs.YtjjacffacmpopaaDoor UM QM

theorem Wo.bo {op : List Nat} (h : Wo op) : op.count 1 = 0 → ∃ n, op = LX.bo n := by
  induction h with
  | nil => intro _; exact ⟨0, rfl⟩
  | one _ _ => intro h; rw [List.count_cons_self] at h; omega
  | two _ _ => intro h; rw [List.count_cons_of_ne (by decide), List.count_cons_self] at h; omega
  | three _ ih =>
    intro h
    rw [List.count_cons_of_ne (by decide)] at h
    obtain ⟨n, rfl⟩ := ih h
    exact ⟨n + 1, rfl⟩
theorem drop_nil {α : Type} {r : List α} {k : Nat} (h : r.drop k = []) : r.length ≤ k := by
  have := congrArg List.length h
  rw [List.length_drop, List.length_nil] at this; omega
/-- behind blanks and a line's end it goes on as from there -/
theorem lxR_blank {op r : List Nat} (x : List Nat) (hi : inn op ≠ 1) (hb : bkR false r = r.length) (g p : Nat) : lxR (g + 1) op p (r ++ 10 :: x) = lxR (g + 1) op (p + r.length + 1) x := by
  have hs : skR op (r ++ 10 :: x) = r.length + 1 + skR op x := by
    unfold skR; rw [if_neg hi, if_neg hi, (bkR_nl x false r).2 hb]
  have hd : ∀ k, (r ++ 10 :: x).drop (r.length + 1 + k) = x.drop k := fun k => by
    rw [← List.drop_drop, ← List.drop_drop, List.drop_left]; rfl
  simp only [lxR]
  rw [hs, hd, if_neg hi, if_neg hi]
  have hl : p + (r ++ 10 :: x).length = p + r.length + 1 + x.length := by rw [List.length_append, List.length_cons]; omega
  rw [hl]
  have hp : p + (r.length + 1 + skR op x) = p + r.length + 1 + skR op x := by omega
  rw [hp]
  have hd2 : ∀ k, (r ++ 10 :: x).drop (r.length + 1 + skR op x + k) = x.drop (skR op x + k) := fun k => by rw [Nat.add_assoc, hd]
  rw [hd2]
theorem lxR_join (x : List Nat) : ∀ (f : Nat) (op : List Nat) (p : Nat) (r : List Nat) (L : List Tk) (a : Nat), Wo op → r.length < f → lxR f op p r = (L, a, 0) →
    ∃ n, ∀ f', r.length + 1 + x.length < f' → ∃ g, x.length < g ∧ lxR f' op p (r ++ 10 :: x) = pre L (lxR g (bo n) (p + r.length + 1) x)
  | 0, _, _, _, _, _, _, h, _ => by omega
  | f + 1, op, p, r, L, a, hw, hf, h => by
    have hsk := skR_le op r
    simp only [lxR] at h
    by_cases h1 : r.drop (skR op r) = []
    · rw [if_pos h1] at h
      obtain ⟨h2, h3⟩ := Prod.mk.inj h
      have h4 : (if 0 < op.count 1 then 5 else 0) = 0 := (Prod.mk.inj h3).2
      have h5 : op.count 1 = 0 := by
        by_cases hc : 0 < op.count 1
        · rw [if_pos hc] at h4; cases h4
        · omega
      obtain ⟨n, rfl⟩ := hw.bo h5
      have hi : inn (LX.bo n) ≠ 1 := by cases n <;> simp [LX.bo, inn, List.replicate_succ]
      have hb : bkR false r = r.length := by
        have := drop_nil h1
        unfold skR at this
        rw [if_neg hi] at this
        have := bkR_le false r
        omega
      refine ⟨n, fun f' hf' => ?_⟩
      obtain ⟨g, rfl⟩ : ∃ g, f' = g + 1 := ⟨f' - 1, by omega⟩
      refine ⟨g + 1, by omega, ?_⟩
      rw [lxR_blank x hi hb, ← h2]; rfl
    rw [if_neg h1] at h
    have hlen : skR op r < r.length := by
      rcases Nat.lt_or_ge (skR op r) r.length with h' | h'
      · exact h'
      · exact absurd (List.drop_of_length_le h') h1
    by_cases hi : inn op = 1
    · rw [if_pos hi] at h
      have hsp := pc_spec r.length r
      have happ := fun hle => pcR_app (10 :: x) r.length r (r ++ 10 :: x).length (Nat.le_refl _) (by simp) hle
      have hsk0 : ∀ y, skR op y = 0 := fun y => if_pos hi
      have hne : (r ++ 10 :: x).drop (skR op (r ++ 10 :: x)) ≠ [] := by rw [hsk0]; simp
      obtain ⟨t, rfl⟩ : ∃ t, op = 1 :: t := by
        cases op with
        | nil => simp [inn] at hi
        | cons b t => exact ⟨t, by rw [show b = 1 from hi]⟩
      have hwt : Wo t := by cases hw; assumption
      generalize hq : pcR r.length r = q at h hsp happ
      by_cases h0 : q.1 = 0
      · rw [if_pos h0] at h
        obtain ⟨L2, hL2, rfl⟩ := pre_ok h
        have hb := hsp.1 h0
        obtain ⟨n, ih⟩ := lxR_join x f t (p + q.2.1 + 1) (r.drop (q.2.1 + 1)) L2 a hwt (by rw [List.length_drop]; omega) hL2
        refine ⟨n, fun f' hf' => ?_⟩
        obtain ⟨g, rfl⟩ : ∃ g, f' = g + 1 := ⟨f' - 1, by omega⟩
        obtain ⟨g2, hg2, he⟩ := ih g (by rw [List.length_drop]; omega)
        refine ⟨g2, hg2, ?_⟩
        simp only [lxR]
        rw [if_neg hne, if_pos hi, happ (by omega), if_pos h0, List.drop_append_of_le_length hb]
        have e3 : (1 :: t).tail = t := rfl
        rw [e3, he, List.length_drop, show p + q.2.1 + 1 + (r.length - (q.2.1 + 1)) + 1 = p + r.length + 1 by omega]
        unfold pre; simp
      rw [if_neg h0] at h
      by_cases h1' : q.1 = 1
      · rw [if_pos h1'] at h
        obtain ⟨L2, hL2, rfl⟩ := pre_ok h
        have hb := hsp.2.1 h1'
        obtain ⟨n, ih⟩ := lxR_join x f (2 :: 1 :: t) (p + q.2.1 + 2) (r.drop (q.2.1 + 2)) L2 a (Wo.two hw) (by rw [List.length_drop]; omega) hL2
        refine ⟨n, fun f' hf' => ?_⟩
        obtain ⟨g, rfl⟩ : ∃ g, f' = g + 1 := ⟨f' - 1, by omega⟩
        obtain ⟨g2, hg2, he⟩ := ih g (by rw [List.length_drop]; omega)
        refine ⟨g2, hg2, ?_⟩
        simp only [lxR]
        rw [if_neg hne, if_pos hi, happ (by omega), if_neg h0, if_pos h1', List.drop_append_of_le_length hb]
        rw [he, List.length_drop, show p + q.2.1 + 2 + (r.length - (q.2.1 + 2)) + 1 = p + r.length + 1 by omega]
        unfold pre; simp
      rw [if_neg h1'] at h
      by_cases h5 : q.1 = 5
      · rw [if_pos h5] at h
        have := (Prod.mk.inj (Prod.mk.inj h).2).2
        cases this
      · rw [if_neg h5] at h
        have := (Prod.mk.inj (Prod.mk.inj h).2).2
        cases this
    · rw [if_neg hi] at h
      have hs1 : skR op r = bkR false r := if_neg hi
      have hs2 : skR op (r ++ 10 :: x) = skR op r := by
        rw [hs1, show skR op (r ++ 10 :: x) = bkR false (r ++ 10 :: x) from if_neg hi]
        exact (bkR_nl x false r).1 (by rw [← hs1]; exact hlen)
      obtain ⟨c, t, hct⟩ : ∃ c t, r.drop (skR op r) = c :: t := by
        cases hq : r.drop (skR op r) with
        | nil => exact absurd hq h1
        | cons c t => exact ⟨c, t, rfl⟩
      have hcl : (c :: t).length = r.length - skR op r := by rw [← hct, List.length_drop]
      have heff := tk_eff op c t
      have hnl := tkR_nl op c t x
      have hdr : (r ++ 10 :: x).drop (skR op r) = c :: t ++ 10 :: x := by rw [List.drop_append_of_le_length hsk, hct]
      rw [hct] at h
      generalize tkR op (c :: t) = q at h heff hnl
      by_cases h0 : q.1 = 0
      · rw [if_pos h0] at h
        obtain ⟨L2, hL2, rfl⟩ := pre_ok h
        obtain ⟨hn1, hn2, hk⟩ := heff h0
        rw [hcl] at hn2
        have hw' : Wo q.2.2.2.2 := by
          rcases hk with ⟨_, ho⟩ | ⟨_, ho⟩ | ⟨_, _, _, hwo⟩
          · rw [ho]; exact Wo.one hw
          · rw [ho] at hw
            generalize q.2.2.2.2 = o at hw
            cases hw; assumption
          · exact hwo hw
        obtain ⟨n, ih⟩ := lxR_join x f q.2.2.2.2 (p + skR op r + q.2.2.2.1) (r.drop (skR op r + q.2.2.2.1)) L2 a hw' (by rw [List.length_drop]; omega) hL2
        refine ⟨n, fun f' hf' => ?_⟩
        obtain ⟨g, rfl⟩ : ∃ g, f' = g + 1 := ⟨f' - 1, by omega⟩
        obtain ⟨g2, hg2, he⟩ := ih g (by rw [List.length_drop]; omega)
        refine ⟨g2, hg2, ?_⟩
        simp only [lxR]
        rw [hs2, hdr, if_neg (by simp), if_neg hi, hnl, if_pos h0, List.drop_append_of_le_length (by omega), he, List.length_drop, show p + skR op r + q.2.2.2.1 + (r.length - (skR op r + q.2.2.2.1)) + 1 = p + r.length + 1 by omega]
        unfold pre; simp
      · rw [if_neg h0] at h
        have := (Prod.mk.inj (Prod.mk.inj h).2).2
        exact absurd this h0
end Go.Proofs.YtjjacffacmpopaaDoor.LX

/- lex: what Tokens tells of two texts with a line's end between. Nothing of the program. -/
namespace Go.Proofs.YtjjacffacmpopaaDoor.LX
open Go.Proofs.YtjjacffacmpopaaDoor UM QM

/-- places further on -/
def shT (d : Nat) (L : List Tk) : List Tk := L.map fun t => (t.1, t.2.1, t.2.2 + d)
def sh (d : Nat) (q : List Tk × Nat × Nat) : List Tk × Nat × Nat := (shT d q.1, q.2.1 + d, q.2.2)
theorem sh_pre (d : Nat) (l : List Tk) (q : List Tk × Nat × Nat) : sh d (pre l q) = pre (shT d l) (sh d q) := by unfold sh pre shT; simp
theorem txR_sh (p n d : Nat) (s : List Nat) : txR (p + d) n s = shT d (txR p n s) := by unfold txR shT; split <;> simp
/-- enough fuel is enough, wherever the text stands -/
theorem lxR_sh (d : Nat) : ∀ (f f' : Nat) (op : List Nat) (p : Nat) (r : List Nat), r.length < f → r.length < f' → lxR f' op (p + d) r = sh d (lxR f op p r)
  | 0, _, _, _, _, h, _ => by omega
  | _ + 1, 0, _, _, _, _, h => by omega
  | f + 1, g + 1, op, p, r, hf, hg => by
    have hsk := skR_le op r
    simp only [lxR]
    by_cases h1 : r.drop (skR op r) = []
    · rw [if_pos h1, if_pos h1]; unfold sh shT; simp; omega
    rw [if_neg h1, if_neg h1]
    have hlen : skR op r < r.length := by
      rcases Nat.lt_or_ge (skR op r) r.length with h' | h'
      · exact h'
      · exact absurd (List.drop_of_length_le h') h1
    by_cases hi : inn op = 1
    · rw [if_pos hi, if_pos hi]
      generalize pcR r.length r = q
      by_cases h0 : q.1 = 0
      · rw [if_pos h0, if_pos h0, sh_pre, show p + d + q.2.1 + 1 = (p + q.2.1 + 1) + d by omega, lxR_sh d f g _ _ _ (by rw [List.length_drop]; omega) (by rw [List.length_drop]; omega), txR_sh]
        congr 1
        unfold shT; simp; omega
      rw [if_neg h0, if_neg h0]
      by_cases h2 : q.1 = 1
      · rw [if_pos h2, if_pos h2, sh_pre, show p + d + q.2.1 + 2 = (p + q.2.1 + 2) + d by omega, lxR_sh d f g _ _ _ (by rw [List.length_drop]; omega) (by rw [List.length_drop]; omega), txR_sh]
        congr 1
        unfold shT; simp; omega
      rw [if_neg h2, if_neg h2]
      by_cases h5 : q.1 = 5
      · rw [if_pos h5, if_pos h5]; unfold sh shT; simp; omega
      · rw [if_neg h5, if_neg h5]; unfold sh shT; simp; omega
    · rw [if_neg hi, if_neg hi]
      obtain ⟨c, t, hct⟩ : ∃ c t, r.drop (skR op r) = c :: t := by
        cases hq : r.drop (skR op r) with
        | nil => exact absurd hq h1
        | cons c t => exact ⟨c, t, rfl⟩
      have heff := tk_eff op c t
      rw [hct]
      generalize tkR op (c :: t) = q at heff ⊢
      by_cases h0 : q.1 = 0
      · have hn := (heff h0).1
        rw [if_pos h0, if_pos h0, sh_pre, show p + d + skR op r + q.2.2.2.1 = (p + skR op r + q.2.2.2.1) + d by omega, lxR_sh d f g _ _ _ (by rw [List.length_drop]; omega) (by rw [List.length_drop]; omega)]
        congr 1
        unfold shT; simp; omega
      · rw [if_neg h0, if_neg h0]; unfold sh shT; simp; omega
/-- s is read to its end: what is told of s, a line's end and t -/
theorem lx_join {s t : List Nat} {L : List Tk} {a : Nat} (h : lxR (s.length + 1) [] 0 s = (L, a, 0)) : lxR ((s ++ 10 :: t).length + 1) [] 0 (s ++ 10 :: t) = pre L (sh (s.length + 1) (lxR (t.length + 1) [] 0 t)) := by
  obtain ⟨n, hj⟩ := lxR_join t (s.length + 1) [] 0 s L a Wo.nil (by omega) h
  obtain ⟨g, hg, he⟩ := hj ((s ++ 10 :: t).length + 1) (by rw [List.length_append, List.length_cons]; omega)
  rw [he]
  have e1 : lxR g (LX.bo n) (0 + s.length + 1) t = lxR g [] (0 + s.length + 1) t := lxR_bo g [] (0 + s.length + 1) t n
  rw [e1, show 0 + s.length + 1 = 0 + (s.length + 1) by omega, lxR_sh (s.length + 1) (t.length + 1) g [] 0 t (by omega) hg]
end Go.Proofs.YtjjacffacmpopaaDoor.LX

/- lex: what Tokens tells of two texts with a line's end between: whole. Nothing of the program. -/
namespace Go.Proofs.YtjjacffacmpopaaDoor.LX
open Go.Proofs.YtjjacffacmpopaaDoor UM QM

theorem vd_app (y : List Nat) : ∀ (k : Nat) (s : List Nat), s.length ≤ k → vd s = s.length → vd (s ++ y) = s.length + vd y
  | 0, s, hk, _ => by
    obtain rfl : s = [] := List.length_eq_zero_iff.1 (by omega)
    simp
  | k + 1, s, hk, h => by
    rcases dcd_cases s with ⟨p, t, hp, he, hd⟩ | ⟨rfl, _⟩ | ⟨hne, hd⟩
    · have h1 : (dcd s).2.2 = true := by rw [hd]
      have h2 := vd_go h1
      have e2 : (dcd s).2.1 = en p := by rw [hd]
      have hdr : s.drop (en p) = t := by rw [he]; exact drop_enc p t
      rw [e2, hdr, h] at h2
      have hl : s.length = en p + t.length := by rw [he, List.length_append, enc_len]
      have hpos := (en_pos p).1
      have ih := vd_app y k t (by omega) (by omega)
      have e3 : s ++ y = enc p ++ (t ++ y) := by rw [he, List.append_assoc]
      have h3 : (dcd (s ++ y)).2.2 = true := by rw [e3, dcd_enc hp]
      have h4 := vd_go h3
      rw [h4, e3, dcd_enc hp]
      simp only
      rw [drop_enc, ih]; omega
    · simp
    · have h1 : (dcd s).2.2 = false := by rw [hd]
      have h2 := vd_stop h1
      have : s = [] := List.length_eq_zero_iff.1 (by omega)
      exact absurd this hne
theorem vd_nl (t : List Nat) : vd (10 :: t) = 1 + vd t := by
  have hp : Pt 10 := by unfold Pt; decide
  have e : 10 :: t = enc 10 ++ t := rfl
  have h1 : dcd (10 :: t) = (10, 1, true) := by rw [e, dcd_enc hp]; rfl
  rw [vd_go (by rw [h1]), h1]; rfl
theorem vd_le (l : List Nat) (h : ¬ vd l < l.length) (hle : vd l ≤ l.length) : vd l = l.length := by omega
/-- two texts with a line's end between, the first one read to its end -/
theorem tkF_join {s t : List Nat} {L : List Tk} {a : Nat} (hs : s.length ≤ 3000) (ht : t.length ≤ 3000) (hvs : vd s ≤ s.length) (h : tkF s = (L, a, 0)) :
    ((tkF t).2.2 = 0 → tkF (s ++ 10 :: t) = (L ++ shT (s.length + 1) (tkF t).1, 0, 0)) ∧
    ((tkF t).2.2 ≠ 0 → tkF (s ++ 10 :: t) = ([], (tkF t).2.1 + (s.length + 1), (tkF t).2.2)) := by
  have hv : vd s = s.length := by
    unfold tkF at h
    rw [if_neg (by omega)] at h
    by_cases hv : vd s < s.length
    · rw [if_pos hv] at h
      have := (Prod.mk.inj (Prod.mk.inj h).2).2
      cases this
    · omega
  have hlx : lxR (s.length + 1) [] 0 s = (L, (lxR (s.length + 1) [] 0 s).2.1, 0) := by
    unfold tkF at h
    rw [if_neg (by omega), if_neg (by omega)] at h
    by_cases h0 : (lxR (s.length + 1) [] 0 s).2.2 = 0
    · rw [if_pos h0] at h
      exact Prod.ext (Prod.mk.inj h).1 (Prod.ext rfl h0)
    · rw [if_neg h0] at h
      exact absurd (Prod.mk.inj (Prod.mk.inj h).2).2 h0
  have hvj : vd (s ++ 10 :: t) = s.length + 1 + vd t := by rw [vd_app _ s.length s (Nat.le_refl _) hv, vd_nl]; omega
  have hlj : (s ++ 10 :: t).length = s.length + 1 + t.length := by rw [List.length_append, List.length_cons]; omega
  have hj := lx_join (t := t) hlx
  have e1 : tkF (s ++ 10 :: t) = if vd t < t.length then ([], s.length + 1 + vd t, 7) else if (lxR (t.length + 1) [] 0 t).2.2 = 0 then (L ++ shT (s.length + 1) (lxR (t.length + 1) [] 0 t).1, 0, 0) else ([], (lxR (t.length + 1) [] 0 t).2.1 + (s.length + 1), (lxR (t.length + 1) [] 0 t).2.2) := by
    unfold tkF
    rw [hj, if_neg (by omega)]
    by_cases hvt : vd t < t.length
    · rw [if_pos (by omega), if_pos hvt, hvj]
    · rw [if_neg (by omega), if_neg hvt]; rfl
  rw [e1]
  unfold tkF
  rw [if_neg (by omega)]
  by_cases hvt : vd t < t.length
  · simp only [if_pos hvt]
    exact ⟨fun h => by simp at h, fun _ => by rw [Nat.add_comm]⟩
  · simp only [if_neg hvt]
    by_cases h0 : (lxR (t.length + 1) [] 0 t).2.2 = 0
    · simp only [if_pos h0]
      exact ⟨fun _ => trivial, fun h => absurd rfl h⟩
    · simp only [if_neg h0]
      exact ⟨fun h => absurd h h0, fun _ => trivial⟩
end Go.Proofs.YtjjacffacmpopaaDoor.LX

/- lex: a token's own text, a blank behind it, is read again as it. Nothing of the program. -/
namespace Go.Proofs.YtjjacffacmpopaaDoor.LX
open Go.Proofs.YtjjacffacmpopaaDoor UM QM

theorem runL_tk {p : Nat → Bool} (hp : p 32 = false) (y : List Nat) : ∀ (r : List Nat) (m : Nat), runL p r ≤ m → runL p (r.take m ++ 32 :: y) = runL p r
  | [], m, _ => by simp [runL, hp]
  | c :: t, 0, h => by
    have : p c = false := by
      cases hc : p c with
      | false => rfl
      | true => simp [runL, hc] at h
    simp [runL, hp, this]
  | c :: t, m + 1, h => by
    simp only [List.take_succ_cons, List.cons_append, runL] at h ⊢
    split
    · rename_i hc
      rw [if_pos hc] at h
      rw [runL_tk hp y t m (by omega)]
    · rfl
theorem isLt32 : isLt 32 = false := by decide
theorem isDg32 : isDg 32 = false := by decide
theorem isNm32 : isNm 32 = false := by decide
theorem nmR_tk (y : List Nat) : ∀ r : List Nat, nmR (r.take (nmR r) ++ 32 :: y) = nmR r
  | [] => by simp [nmR, isLt32]
  | c :: t => by
    by_cases h : isLt c = true
    · have e : nmR (c :: t) = runL isNm t + 1 := by simp only [nmR]; rw [if_pos h]
      rw [e, List.take_succ_cons, List.cons_append]
      simp only [nmR]
      rw [if_pos h, runL_tk isNm32 y t _ (Nat.le_refl _)]
    · have e : nmR (c :: t) = 0 := by simp only [nmR]; rw [if_neg h]
      rw [e]
      simp [nmR, isLt32]
theorem get_tk {r : List Nat} {m n : Nat} (y : List Nat) (hn : n < m) (hm : m ≤ r.length) : (r.take m ++ 32 :: y)[n]? = r[n]? := by
  rw [List.getElem?_append_left (by rw [List.length_take]; omega), List.getElem?_take_of_lt hn]
theorem get_tk_end {r : List Nat} {m : Nat} (y : List Nat) (hm : m ≤ r.length) : (r.take m ++ 32 :: y)[m]? = some 32 := by
  rw [List.getElem?_append_right (by rw [List.length_take]; omega), List.length_take, Nat.min_eq_left hm, Nat.sub_self]; rfl
theorem drop_tk {r : List Nat} {m j : Nat} (y : List Nat) (hj : j ≤ m) (hm : m ≤ r.length) : (r.take m ++ 32 :: y).drop j = (r.drop j).take (m - j) ++ 32 :: y := by
  rw [List.drop_append_of_le_length (by rw [List.length_take]; omega), List.drop_take]
theorem dgR_tk {r : List Nat} {m j : Nat} (y : List Nat) (hj : j ≤ m) (hm : m ≤ r.length) (h : dgR (r.drop j) ≤ m - j) : dgR ((r.take m ++ 32 :: y).drop j) = dgR (r.drop j) := by
  rw [drop_tk y hj hm]; exact runL_tk isDg32 y _ _ h
theorem nu2_tk {r : List Nat} {m : Nat} (y : List Nat) (h : nu2 r ≤ m) (hm : m ≤ r.length) : nu2 (r.take m ++ 32 :: y) = nu2 r := by
  have hd : dgR r ≤ nu2 r := by
    unfold nu2; split
    · exact dbR_ge (by omega)
    · exact Nat.le_refl _
  have e0 : dgR (r.take m ++ 32 :: y) = dgR r := runL_tk isDg32 y r m (by unfold dgR at hd; omega)
  unfold nu2 at h ⊢
  rw [e0]
  by_cases hp : r[dgR r]? = some 46
  · rw [if_pos hp] at h ⊢
    rcases Nat.lt_or_ge (dgR r) m with hlt | hge
    · rw [get_tk y hlt hm, if_pos hp]
      unfold dbR at h ⊢
      by_cases h0 : 0 < dgR (r.drop (dgR r + 1))
      · rw [if_pos h0] at h ⊢
        rw [dgR_tk (j := dgR r + 1) y (by omega) hm (by omega), if_pos h0]
      · rw [if_neg h0]
        rw [dgR_tk (j := dgR r + 1) y (by omega) hm (by omega), if_neg h0]
    · have : m = dgR r := by unfold dbR at h; split at h <;> omega
      subst this
      rw [get_tk_end y hm, if_neg (by decide)]
      unfold dbR at h ⊢
      split
      · rename_i h0; rw [if_pos h0] at h; omega
      · rfl
  · rw [if_neg hp] at h ⊢
    rcases Nat.lt_or_ge (dgR r) m with hlt | hge
    · rw [get_tk y hlt hm, if_neg hp]
    · have : m = dgR r := by omega
      subst this
      rw [get_tk_end y hm, if_neg (by decide)]
theorem sgR_tk {r : List Nat} {m : Nat} (y : List Nat) (hm : 0 < m) (h : r ≠ []) : sgR (r.take m ++ 32 :: y) = sgR r := by
  cases r with
  | nil => exact absurd rfl h
  | cons c t =>
    obtain ⟨k, rfl⟩ : ∃ k, m = k + 1 := ⟨m - 1, by omega⟩
    rfl
theorem nuR_tk (y r : List Nat) : nuR (r.take (nuR r) ++ 32 :: y) = nuR r := by
  have hm := nuR_le r
  have hn : nu2 r ≤ nuR r := by
    unfold nuR; split
    · exact dbR_ge (by omega)
    · exact Nat.le_refl _
  obtain ⟨m, he⟩ : ∃ m, nuR r = m := ⟨_, rfl⟩
  rw [he] at hm hn ⊢
  have e2 := nu2_tk y hn hm
  have hend : m = nu2 r → nuR (r.take m ++ 32 :: y) = m := fun h => by
    unfold nuR
    rw [e2, ← h, get_tk_end y hm, if_neg (by decide)]
  unfold nuR at he
  by_cases hp : r[nu2 r]? = some 101 ∨ r[nu2 r]? = some 69
  · rw [if_pos hp] at he
    unfold dbR at he
    by_cases h0 : 0 < dgR (r.drop (nu2 r + 1 + sgR (r.drop (nu2 r + 1))))
    · rw [if_pos h0] at he
      have hlt : nu2 r < m := by omega
      unfold nuR
      rw [e2, get_tk y hlt hm, if_pos hp, drop_tk y hlt hm]
      have hne : r.drop (nu2 r + 1) ≠ [] := by
        intro h
        rw [← List.drop_drop, h] at h0
        simp [dgR, runL] at h0
      rw [sgR_tk y (by omega) hne]
      unfold dbR
      rw [dgR_tk y (by omega) hm (by omega), if_pos h0, he]
    · rw [if_neg h0] at he
      exact hend he.symm
  · rw [if_neg hp] at he
    exact hend he.symm
/-- a token's own text -/
def wrT (k : Nat) (x : List Nat) : List Nat := if k = 3 then 46 :: x else if k = 4 then 36 :: x else x
theorem sgn_again (y : List Nat) : ∀ sg ∈ sgL, sgnR (sg ++ 32 :: y) = sg := by
  intro sg h
  unfold sgL at h
  simp only [List.mem_cons, List.not_mem_nil, or_false] at h
  rcases h with rfl | rfl | rfl | rfl | rfl | rfl | rfl | rfl | rfl | rfl | rfl | rfl | rfl | rfl | rfl | rfl | rfl | rfl | rfl | rfl | rfl | rfl | rfl | rfl | rfl | rfl | rfl | rfl | rfl | rfl | rfl | rfl | rfl <;> rfl
/-- what a sign begins with begins nothing else -/
def sgC (c : Nat) : Bool := !isLt c && !isDg c && c != 36 && c != 64 && c != 34 && c != 32 && c != 9 && c != 10 && c != 13 && c != 35
theorem sgn_head (y : List Nat) : ∀ sg ∈ sgL, ∃ c t, sg = c :: t ∧ sgC c = true ∧ nmR (t ++ 32 :: y) = 0 ∧ ∀ b ∈ sg, b < 128 := by
  intro sg h
  unfold sgL at h
  simp only [List.mem_cons, List.not_mem_nil, or_false] at h
  rcases h with rfl | rfl | rfl | rfl | rfl | rfl | rfl | rfl | rfl | rfl | rfl | rfl | rfl | rfl | rfl | rfl | rfl | rfl | rfl | rfl | rfl | rfl | rfl | rfl | rfl | rfl | rfl | rfl | rfl | rfl | rfl | rfl | rfl <;> exact ⟨_, _, rfl, by decide, rfl, by decide⟩
def sgO (op sg : List Nat) : List Nat := if sg = [41] ∧ inn op = 3 then op.tail else if sg = [40] then 3 :: op else op
end Go.Proofs.YtjjacffacmpopaaDoor.LX

/- lex: tokens that hold no text, written one by one with blanks and notes between them, are read again. Nothing of the program. -/
namespace Go.Proofs.YtjjacffacmpopaaDoor.LX
open Go.Proofs.YtjjacffacmpopaaDoor UM QM

/-- the first n are below 128 -/
def pl (r : List Nat) (n : Nat) : Prop := ∀ b ∈ r.take n, b < 128
theorem pl.zero (r : List Nat) : pl r 0 := fun b h => by simp at h
theorem pl.add {r : List Nat} {n k : Nat} (h : pl r n) (h2 : pl (r.drop n) k) : pl r (n + k) := fun b hb => by
  rw [List.take_add, List.mem_append] at hb
  exact hb.elim (h b) (h2 b)
theorem pl.one {r : List Nat} {n c : Nat} (h : pl r n) (hc : r[n]? = some c) (h2 : c < 128) : pl r (n + 1) := h.add fun b hb => by
  obtain ⟨hl, rfl⟩ := List.getElem?_eq_some_iff.1 hc
  rw [List.drop_eq_getElem_cons hl] at hb
  rw [List.take_succ_cons, List.take_zero, List.mem_singleton] at hb
  rw [hb]; exact h2
theorem runL_all (p : Nat → Bool) : ∀ r : List Nat, ∀ b ∈ r.take (runL p r), p b = true
  | [], b, h => by simp at h
  | c :: t, b, h => by
    simp only [runL] at h
    split at h
    · rename_i hc
      rw [List.take_succ_cons, List.mem_cons] at h
      rcases h with rfl | h
      · exact hc
      · exact runL_all p t b h
    · simp at h
theorem isDg_lt {b : Nat} (h : isDg b = true) : b < 128 := by
  unfold isDg at h; simp only [Bool.and_eq_true, decide_eq_true_eq] at h; omega
theorem isLt_lt {b : Nat} (h : isLt b = true) : b < 128 := by
  unfold isLt at h; simp only [Bool.or_eq_true, Bool.and_eq_true, decide_eq_true_eq, beq_iff_eq] at h; omega
theorem isNm_lt {b : Nat} (h : isNm b = true) : b < 128 := by
  unfold isNm at h; rw [Bool.or_eq_true] at h; exact h.elim isLt_lt isDg_lt
theorem pl_dg (r : List Nat) : pl r (dgR r) := fun b h => isDg_lt (runL_all _ r b h)
theorem pl_nm : ∀ r : List Nat, pl r (nmR r)
  | [] => fun b h => by simp at h
  | c :: t => fun b h => by
    simp only [nmR] at h
    split at h
    · rename_i hc
      rw [List.take_succ_cons, List.mem_cons] at h
      rcases h with rfl | h
      · exact isLt_lt hc
      · exact isNm_lt (runL_all _ t b h)
    · simp at h
theorem pl_sg : ∀ r : List Nat, pl r (sgR r)
  | [] => fun b h => by simp at h
  | c :: t => fun b h => by
    simp only [sgR] at h
    split at h
    · simp at h; omega
    · simp at h
theorem pl_db {r : List Nat} {n m : Nat} (h : pl r n) (h2 : pl r m) : pl r (dbR r n m) := by
  unfold dbR; split
  · exact h2.add (pl_dg _)
  · exact h
theorem pl_nu2 (r : List Nat) : pl r (nu2 r) := by
  unfold nu2; split
  · rename_i h; exact pl_db (pl_dg r) ((pl_dg r).one h (by decide))
  · exact pl_dg r
theorem pl_nu (r : List Nat) : pl r (nuR r) := by
  unfold nuR; split
  · rename_i h
    exact pl_db (pl_nu2 r) ((h.elim (fun h => (pl_nu2 r).one h (by decide)) (fun h => (pl_nu2 r).one h (by decide))).add (pl_sg _))
  · exact pl_nu2 r
theorem take_again {r : List Nat} {n : Nat} (y : List Nat) (h : n ≤ r.length) : (r.take n ++ y).take n = r.take n := by
  rw [List.take_append_of_le_length (by rw [List.length_take]; omega), List.take_of_length_le (by rw [List.length_take]; omega)]
theorem bo_inn (m : Nat) : inn (bo m) ≠ 1 ∧ inn (bo m) ≠ 2 := by cases m <;> simp [bo, inn, List.replicate_succ]
theorem bo_tail (m : Nat) : ∃ k, (bo m).tail = bo k := ⟨m - 1, by cases m <;> simp [bo, List.replicate_succ]⟩
/-- no blank, and no note, begins so -/
def nbk (c : Nat) : Prop := c ≠ 32 ∧ c ≠ 9 ∧ c ≠ 10 ∧ c ≠ 13 ∧ c ≠ 35
theorem nbk_lt {c : Nat} (h : isLt c = true) : nbk c := by
  unfold isLt at h; simp only [Bool.or_eq_true, Bool.and_eq_true, decide_eq_true_eq, beq_iff_eq] at h; unfold nbk; omega
theorem nbk_dg {c : Nat} (h : isDg c = true) : nbk c := by
  unfold isDg at h; simp only [Bool.and_eq_true, decide_eq_true_eq] at h; unfold nbk; omega
/-- what is said of a token q that is read again -/
def Agn (m : Nat) (y : List Nat) (q : Nat × Nat × List Nat × Nat × List Nat) : Prop :=
  (∃ m2, q.2.2.2.2 = bo m2) ∧ (∃ d u, wrT q.2.1 q.2.2.1 = d :: u ∧ nbk d) ∧
  tkR (bo m) (wrT q.2.1 q.2.2.1 ++ 32 :: y) = (0, q.2.1, q.2.2.1, (wrT q.2.1 q.2.2.1).length, q.2.2.2.2) ∧ ∀ b ∈ wrT q.2.1 q.2.2.1, b < 128
theorem tk_again (m : Nat) (c : Nat) (t y : List Nat) (h0 : (tkR (bo m) (c :: t)).1 = 0) (hk : (tkR (bo m) (c :: t)).2.1 ≤ 6) : Agn m y (tkR (bo m) (c :: t)) := by
  by_cases h1 : isLt c = true
  · have e : tkR (bo m) (c :: t) = (0, 2, (c :: t).take (nmR (c :: t)), nmR (c :: t), bo m) := by simp only [tkR]; rw [if_pos h1]
    have hl := nmR_le (c :: t)
    have ha := nmR_tk y (c :: t)
    have hp := pl_nm (c :: t)
    have hn : nmR (c :: t) = runL isNm t + 1 := by simp only [nmR]; rw [if_pos h1]
    rw [e]
    have hx : wrT 2 ((c :: t).take (nmR (c :: t))) = c :: t.take (runL isNm t) := by rw [hn]; rfl
    have hx2 : (c :: t).take (nmR (c :: t)) = c :: t.take (runL isNm t) := by rw [hn]; rfl
    refine ⟨⟨m, rfl⟩, ⟨c, _, hx, nbk_lt h1⟩, ?_, hp⟩
    have hl2 : (c :: t.take (runL isNm t)).length = nmR (c :: t) := by rw [← hx2, List.length_take, Nat.min_eq_left hl]
    show tkR (bo m) (wrT 2 ((c :: t).take (nmR (c :: t))) ++ 32 :: y) = _
    rw [hx, hl2]
    rw [hx2] at ha
    have ht := take_again (r := c :: t) (32 :: y) hl
    rw [hx2] at ht
    rw [List.cons_append] at ha ht ⊢
    simp only [tkR]
    rw [if_pos h1, ha, ht, hx2]
  by_cases h2 : isDg c = true
  · have e : tkR (bo m) (c :: t) = (0, 1, (c :: t).take (nuR (c :: t)), nuR (c :: t), bo m) := by simp only [tkR]; rw [if_neg h1, if_pos h2]
    have hl := nuR_le (c :: t)
    have ha := nuR_tk y (c :: t)
    have hp := pl_nu (c :: t)
    obtain ⟨n, hn⟩ : ∃ n, nuR (c :: t) = n + 1 := ⟨nuR (c :: t) - 1, by have := nuR_pos (t := t) h2; omega⟩
    rw [e]
    have hx2 : (c :: t).take (nuR (c :: t)) = c :: t.take n := by rw [hn]; rfl
    refine ⟨⟨m, rfl⟩, ⟨c, _, hx2, nbk_dg h2⟩, ?_, hp⟩
    have hl2 : (c :: t.take n).length = nuR (c :: t) := by rw [← hx2, List.length_take, Nat.min_eq_left hl]
    show tkR (bo m) ((c :: t).take (nuR (c :: t)) ++ 32 :: y) = (0, 1, (c :: t).take (nuR (c :: t)), ((c :: t).take (nuR (c :: t))).length, bo m)
    rw [hx2, hl2]
    have ht := take_again (r := c :: t) (32 :: y) hl
    rw [hx2] at ha ht
    rw [List.cons_append] at ha ht ⊢
    simp only [tkR]
    rw [if_neg h1, if_pos h2, ha, ht]
  have hnm := nmR_tk y t
  have hpn := pl_nm t
  have hln := nmR_le t
  have htn := take_again (r := t) (32 :: y) hln
  have hlt : (t.take (nmR t)).length = nmR t := by rw [List.length_take, Nat.min_eq_left hln]
  by_cases h3 : c = 46 ∧ 0 < nmR t
  · have e : tkR (bo m) (c :: t) = (0, 3, t.take (nmR t), nmR t + 1, bo m) := by simp only [tkR]; rw [if_neg h1, if_neg h2, if_pos h3]
    rw [e]
    refine ⟨⟨m, rfl⟩, ⟨46, _, rfl, by unfold nbk; decide⟩, ?_, fun b hb => ?_⟩
    · show tkR (bo m) (46 :: t.take (nmR t) ++ 32 :: y) = (0, 3, t.take (nmR t), (46 :: t.take (nmR t)).length, bo m)
      rw [List.length_cons, hlt, List.cons_append]
      simp only [tkR]
      rw [if_neg (by decide), if_neg (by decide), hnm, if_pos ⟨trivial, h3.2⟩, htn]
    · have hb' : b ∈ 46 :: t.take (nmR t) := hb
      rw [List.mem_cons] at hb'
      exact hb'.elim (fun h => by omega) (hpn b)
  by_cases h4 : c = 36 ∧ 0 < nmR t
  · have e : tkR (bo m) (c :: t) = (0, 4, t.take (nmR t), nmR t + 1, bo m) := by simp only [tkR]; rw [if_neg h1, if_neg h2, if_neg h3, if_pos h4]
    rw [e]
    refine ⟨⟨m, rfl⟩, ⟨36, _, rfl, by unfold nbk; decide⟩, ?_, fun b hb => ?_⟩
    · show tkR (bo m) (36 :: t.take (nmR t) ++ 32 :: y) = (0, 4, t.take (nmR t), (36 :: t.take (nmR t)).length, bo m)
      rw [List.length_cons, hlt, List.cons_append]
      simp only [tkR]
      rw [if_neg (by decide), if_neg (by decide), if_neg (by rintro ⟨h, _⟩; cases h), hnm, if_pos ⟨trivial, h4.2⟩, htn]
    · have hb' : b ∈ 36 :: t.take (nmR t) := hb
      rw [List.mem_cons] at hb'
      exact hb'.elim (fun h => by omega) (hpn b)
  by_cases h5 : c = 64 ∧ 0 < nmR t
  · obtain ⟨rfl, h5⟩ := h5
    have e : tkR (bo m) (64 :: t) = (0, 5, 64 :: t.take (nmR t), nmR t + 1, bo m) := by simp only [tkR]; rw [if_neg h1, if_neg h2, if_neg h3, if_neg h4, if_pos ⟨trivial, h5⟩]; rfl
    rw [e]
    refine ⟨⟨m, rfl⟩, ⟨64, _, rfl, by unfold nbk; decide⟩, ?_, fun b hb => ?_⟩
    · show tkR (bo m) (64 :: t.take (nmR t) ++ 32 :: y) = (0, 5, 64 :: t.take (nmR t), (64 :: t.take (nmR t)).length, bo m)
      rw [List.length_cons, hlt, List.cons_append]
      simp only [tkR]
      rw [if_neg (by decide), if_neg (by decide), if_neg (by rintro ⟨h, _⟩; cases h), if_neg (by rintro ⟨h, _⟩; cases h), hnm, if_pos ⟨trivial, h5⟩, List.take_succ_cons, htn]
    · have hb' : b ∈ 64 :: t.take (nmR t) := hb
      rw [List.mem_cons] at hb'
      exact hb'.elim (fun h => by omega) (hpn b)
  by_cases h6 : c = 34
  · have e : tkR (bo m) (c :: t) = if (bo m).count 1 = 50 then (6, 0, [], 0, bo m) else (0, 7, [], 1, 1 :: bo m) := by simp only [tkR]; rw [if_neg h1, if_neg h2, if_neg h3, if_neg h4, if_neg h5, if_pos h6]
    rw [e] at h0 hk
    split at h0
    · cases h0
    · rename_i h; rw [if_neg h] at hk; simp at hk
  have e : tkR (bo m) (c :: t) = if sgnR (c :: t) = [] then (2, 0, [], 0, bo m)
    else if sgnR (c :: t) = [41] ∧ inn (bo m) = 2 then (0, 10, [], 1, (bo m).tail)
    else if sgnR (c :: t) = [41] ∧ inn (bo m) = 3 then (0, 6, [41], 1, (bo m).tail)
    else if sgnR (c :: t) = [40] then (0, 6, [40], 1, 3 :: bo m)
    else (0, 6, sgnR (c :: t), (sgnR (c :: t)).length, bo m) := by simp only [tkR]; rw [if_neg h1, if_neg h2, if_neg h3, if_neg h4, if_neg h5, if_neg h6]
  have hne : sgnR (c :: t) ≠ [] := fun h => by rw [e, if_pos h] at h0; cases h0
  have hmem : sgnR (c :: t) ∈ sgL := (fsF_mem hne).1
  generalize sgnR (c :: t) = sg at e hne hmem
  have ho : (if sg = [41] ∧ inn (bo m) = 2 then (0, 10, [], 1, (bo m).tail)
    else if sg = [41] ∧ inn (bo m) = 3 then (0, 6, [41], 1, (bo m).tail)
    else if sg = [40] then (0, 6, [40], 1, 3 :: bo m)
    else (0, 6, sg, sg.length, bo m) : Nat × Nat × List Nat × Nat × List Nat) = (0, 6, sg, sg.length, sgO (bo m) sg) := by
    rw [if_neg (fun h => (bo_inn m).2 h.2)]
    unfold sgO
    by_cases g1 : sg = [41] ∧ inn (bo m) = 3
    · rw [if_pos g1, if_pos g1, g1.1]; rfl
    rw [if_neg g1, if_neg g1]
    by_cases g2 : sg = [40]
    · rw [if_pos g2, if_pos g2, g2]; rfl
    rw [if_neg g2, if_neg g2]
  rw [if_neg hne, ho] at e
  rw [e]
  obtain ⟨d, u, rfl, hd, hu, hb⟩ := sgn_head y sg hmem
  have hs := sgn_again y _ hmem
  unfold sgC at hd
  simp only [Bool.and_eq_true, Bool.not_eq_true', bne_iff_ne] at hd
  obtain ⟨⟨⟨⟨⟨⟨⟨⟨⟨d1, d2⟩, d3⟩, d4⟩, d5⟩, d6⟩, d7⟩, d8⟩, d9⟩, d10⟩ := hd
  refine ⟨?_, ⟨d, u, rfl, d6, d7, d8, d9, d10⟩, ?_, hb⟩
  · show ∃ m2, sgO (bo m) (d :: u) = bo m2
    unfold sgO
    split
    · exact bo_tail m
    split
    · exact ⟨m + 1, rfl⟩
    · exact ⟨m, rfl⟩
  · show tkR (bo m) (d :: u ++ 32 :: y) = (0, 6, d :: u, (d :: u).length, sgO (bo m) (d :: u))
    rw [List.cons_append] at hs ⊢
    simp only [tkR]
    rw [if_neg (by rw [d1]; decide), if_neg (by rw [d2]; decide), hu, if_neg (by omega), if_neg (by omega), if_neg (by omega), if_neg d5, hs, if_neg (by simp), ho]
/-- the tokens, each with a blank and a note behind -/
def spr (nt : List Nat) : List Tk → List Nat
  | [] => []
  | t :: L => wrT t.1 t.2.1 ++ ((32 :: 35 :: nt) ++ 10 :: spr nt L)
def kt (L : List Tk) : List (Nat × List Nat) := L.map fun t => (t.1, t.2.1)
theorem bk_note : ∀ nt : List Nat, 10 ∉ nt → bkR true nt = nt.length
  | [], _ => rfl
  | c :: t, h => by
    simp only [bkR]
    rw [if_neg (fun e => h (by rw [e]; exact List.mem_cons_self ..)), bk_note t (fun e => h (List.mem_cons_of_mem _ e))]; rfl
theorem bo_count (m : Nat) : (bo m).count 1 = 0 := by unfold bo; rw [List.count_replicate, if_neg (by decide)]
theorem lx_again (nt : List Nat) (hnt : 10 ∉ nt) : ∀ (f m p : Nat) (r : List Nat) (L : List Tk) (a : Nat), r.length < f → lxR f (bo m) p r = (L, a, 0) → (∀ t ∈ L, t.1 ≤ 6) →
    (∀ b ∈ spr nt L, b ∈ nt ∨ b < 128) ∧ ∀ f' p', (spr nt L).length < f' → ∃ L2 a2, lxR f' (bo m) p' (spr nt L) = (L2, a2, 0) ∧ kt L2 = kt L
  | 0, _, _, _, _, _, h, _, _ => by omega
  | f + 1, m, p, r, L, a, hf, h, hk => by
    have hsk := skR_le (bo m) r
    simp only [lxR] at h
    by_cases h1 : r.drop (skR (bo m) r) = []
    · rw [if_pos h1] at h
      obtain ⟨h2, h3⟩ := Prod.mk.inj h
      subst h2
      refine ⟨fun b hb => by simp [spr] at hb, fun f' p' hf' => ?_⟩
      obtain ⟨g, rfl⟩ : ∃ g, f' = g + 1 := ⟨f' - 1, by omega⟩
      refine ⟨[], p', ?_, rfl⟩
      simp only [spr, lxR, List.drop_nil, if_pos, bo_count]; rfl
    rw [if_neg h1, if_neg (bo_inn m).1] at h
    have hlen : skR (bo m) r < r.length := by
      rcases Nat.lt_or_ge (skR (bo m) r) r.length with h' | h'
      · exact h'
      · exact absurd (List.drop_of_length_le h') h1
    obtain ⟨c, t, hct⟩ : ∃ c t, r.drop (skR (bo m) r) = c :: t := by
      cases hq : r.drop (skR (bo m) r) with
      | nil => exact absurd hq h1
      | cons c t => exact ⟨c, t, rfl⟩
    have heff := tk_eff (bo m) c t
    have hag := tk_again m c t
    rw [hct] at h
    generalize tkR (bo m) (c :: t) = q at h heff hag
    by_cases h0 : q.1 = 0
    · rw [if_pos h0] at h
      obtain ⟨L2, hL2, rfl⟩ := pre_ok h
      have hn1 := (heff h0).1
      have hk6 : q.2.1 ≤ 6 := hk _ (List.mem_cons_self ..)
      obtain ⟨m2, hm2⟩ := (hag [] h0 hk6).1
      rw [hm2] at hL2
      obtain ⟨ihb, ih⟩ := lx_again nt hnt f m2 _ _ L2 a (by rw [List.length_drop]; omega) hL2 (fun t ht => hk t (List.mem_cons_of_mem _ ht))
      have hspr : spr nt ([(q.2.1, q.2.2.1, p + skR (bo m) r)] ++ L2) = wrT q.2.1 q.2.2.1 ++ ((32 :: 35 :: nt) ++ 10 :: spr nt L2) := rfl
      refine ⟨fun b hb => ?_, fun f' p' hf' => ?_⟩
      · rw [hspr] at hb
        simp only [List.mem_append, List.mem_cons] at hb
        rcases hb with hb | (rfl | rfl | hb) | rfl | hb
        · exact .inr ((hag [] h0 hk6).2.2.2 b hb)
        · exact .inr (by decide)
        · exact .inr (by decide)
        · exact .inl hb
        · exact .inr (by decide)
        · exact ihb b hb
      · obtain ⟨g, rfl⟩ : ∃ g, f' = g + 1 := ⟨f' - 1, by omega⟩
        obtain ⟨_, ⟨d, u, hdu, hd⟩, htk, _⟩ := hag (35 :: nt ++ 10 :: spr nt L2) h0 hk6
        rw [hspr] at hf' ⊢
        have hlw : (wrT q.2.1 q.2.2.1 ++ ((32 :: 35 :: nt) ++ 10 :: spr nt L2)).length = (wrT q.2.1 q.2.2.1).length + (nt.length + 3 + (spr nt L2).length) := by
          simp only [List.length_append, List.length_cons]; omega
        have hwl : 1 ≤ (wrT q.2.1 q.2.2.1).length := by rw [hdu, List.length_cons]; omega
        obtain ⟨g2, rfl⟩ : ∃ g2, g = g2 + 1 := ⟨g - 1, by omega⟩
        have hbk : bkR false (32 :: 35 :: nt) = (32 :: 35 :: nt).length := by
          simp only [bkR]
          rw [if_pos (by simp), if_neg (by decide), if_pos trivial, bk_note nt hnt]; rfl
        obtain ⟨L3, a3, he, hkt⟩ := ih (g2 + 1) (p' + 0 + (wrT q.2.1 q.2.2.1).length + (32 :: 35 :: nt).length + 1) (by omega)
        have hs0 : skR (bo m) (wrT q.2.1 q.2.2.1 ++ ((32 :: 35 :: nt) ++ 10 :: spr nt L2)) = 0 := by
          unfold skR
          rw [if_neg (bo_inn m).1, hdu]
          obtain ⟨x1, x2, x3, x4, x5⟩ := hd
          rw [List.cons_append]
          simp only [bkR]
          rw [if_neg (by omega), if_neg x5]
        have hne : (wrT q.2.1 q.2.2.1 ++ ((32 :: 35 :: nt) ++ 10 :: spr nt L2)) ≠ [] := by rw [hdu]; simp
        have hdw : ∀ X : List Nat, (wrT q.2.1 q.2.2.1 ++ X).drop (0 + (wrT q.2.1 q.2.2.1).length) = X := fun X => by rw [Nat.zero_add, List.drop_left]
        have htk2 : tkR (bo m) (wrT q.2.1 q.2.2.1 ++ ((32 :: 35 :: nt) ++ 10 :: spr nt L2)) = (0, q.2.1, q.2.2.1, (wrT q.2.1 q.2.2.1).length, bo m2) := by
          rw [← hm2, ← htk]; rfl
        refine ⟨(q.2.1, q.2.2.1, p' + 0) :: L3, a3, ?_, ?_⟩
        · rw [show lxR (g2 + 1 + 1) (bo m) p' (wrT q.2.1 q.2.2.1 ++ ((32 :: 35 :: nt) ++ 10 :: spr nt L2)) = pre [(q.2.1, q.2.2.1, p' + 0)] (lxR (g2 + 1) (bo m2) (p' + 0 + (wrT q.2.1 q.2.2.1).length) ((32 :: 35 :: nt) ++ 10 :: spr nt L2)) from by
            rw [lxR]
            rw [hs0, List.drop_zero, if_neg hne, if_neg (bo_inn m).1, htk2, if_pos rfl]
            simp only
            rw [hdw]]
          rw [lxR_blank _ (bo_inn m2).1 hbk, he]; rfl
        · show (q.2.1, q.2.2.1) :: kt L3 = (q.2.1, q.2.2.1) :: kt L2
          rw [hkt]
    · rw [if_neg h0] at h
      have := (Prod.mk.inj (Prod.mk.inj h).2).2
      exact absurd this h0
theorem lxR_tab (g p : Nat) (x : List Nat) : lxR (g + 1) [] p (9 :: x) = lxR (g + 1) [] (p + 1) x := by
  have hs : skR [] (9 :: x) = 1 + skR [] x := by
    show bkR false (9 :: x) = 1 + bkR false x
    simp only [bkR]
    rw [if_pos (by simp)]; omega
  have hd : ∀ k, (9 :: x).drop (1 + k) = x.drop k := fun k => by rw [Nat.add_comm, List.drop_succ_cons]
  have hd2 : ∀ k, (9 :: x).drop (1 + skR [] x + k) = x.drop (skR [] x + k) := fun k => by rw [Nat.add_assoc, hd]
  have hi : inn [] ≠ 1 := by decide
  simp only [lxR]
  rw [hs, hd, if_neg hi, if_neg hi, List.length_cons, show p + (x.length + 1) = p + 1 + x.length by omega, show p + (1 + skR [] x) = p + 1 + skR [] x by omega, hd2]
theorem encL_asc : ∀ {l : List Nat}, (∀ b ∈ l, b < 128) → encL l = l
  | [], _ => rfl
  | b :: l, h => by
    rw [encL_cons, encL_asc (fun c hc => h c (List.mem_cons_of_mem _ hc))]
    have := h b (List.mem_cons_self ..)
    unfold enc; rw [if_pos this]; rfl
theorem vd_asc {l : List Nat} (h : ∀ b ∈ l, b < 128) : vd l = l.length := by
  have := vd_enc (ps := l) (fun p hp => by have := h p hp; unfold Pt; omega)
  rwa [encL_asc h] at this
/-- whatever was read into tokens without texts is read again so -/
theorem tkF_again {s nt : List Nat} {L : List Tk} {a : Nat} (h : tkF s = (L, a, 0)) (hk : ∀ t ∈ L, t.1 ≤ 6) (hnt : ∀ b ∈ nt, b ≠ 10 ∧ b < 128) (hl : (9 :: spr nt L).length ≤ 100000) :
    ∃ L2, tkF (9 :: spr nt L) = (L2, 0, 0) ∧ kt L2 = kt L := by
  unfold tkF at h
  by_cases h1 : 100000 < s.length
  · rw [if_pos h1] at h; have := (Prod.mk.inj (Prod.mk.inj h).2).2; cases this
  rw [if_neg h1] at h
  by_cases h2 : vd s < s.length
  · rw [if_pos h2] at h; have := (Prod.mk.inj (Prod.mk.inj h).2).2; cases this
  rw [if_neg h2] at h
  have h0 : (lxR (s.length + 1) [] 0 s).2.2 = 0 := by
    by_cases h0 : (lxR (s.length + 1) [] 0 s).2.2 = 0
    · exact h0
    · rw [if_neg h0] at h; exact absurd (Prod.mk.inj (Prod.mk.inj h).2).2 h0
  rw [if_pos h0] at h
  have hL : (lxR (s.length + 1) [] 0 s).1 = L := (Prod.mk.inj h).1
  obtain ⟨hb, hag⟩ := lx_again nt (fun e => (hnt _ e).1 rfl) (s.length + 1) 0 0 s L (lxR (s.length + 1) [] 0 s).2.1 (by omega) (Prod.ext hL (Prod.ext rfl h0)) hk
  obtain ⟨L2, a2, he, hkt⟩ := hag ((9 :: spr nt L).length + 1) 1 (by simp only [List.length_cons]; omega)
  refine ⟨L2, ?_, hkt⟩
  have hv : vd (9 :: spr nt L) = (9 :: spr nt L).length := vd_asc (fun b hb' => by
    rw [List.mem_cons] at hb'
    rcases hb' with rfl | hb'
    · decide
    · exact (hb b hb').elim (fun h => (hnt b h).2) id)
  have he2 : lxR ((9 :: spr nt L).length + 1) [] 0 (9 :: spr nt L) = (L2, a2, 0) := by
    rw [lxR_tab]; exact he
  unfold tkF
  rw [if_neg (by omega), hv, if_neg (by omega), he2]
  rfl
/-- all of it is below 128 -/
theorem tkF_asc {s nt : List Nat} {L : List Tk} {a : Nat} (h : tkF s = (L, a, 0)) (hk : ∀ t ∈ L, t.1 ≤ 6) (hnt : ∀ b ∈ nt, b ≠ 10 ∧ b < 128) : ∀ b ∈ spr nt L, b < 128 := by
  unfold tkF at h
  by_cases h1 : 100000 < s.length
  · rw [if_pos h1] at h; have := (Prod.mk.inj (Prod.mk.inj h).2).2; cases this
  rw [if_neg h1] at h
  by_cases h2 : vd s < s.length
  · rw [if_pos h2] at h; have := (Prod.mk.inj (Prod.mk.inj h).2).2; cases this
  rw [if_neg h2] at h
  have h0 : (lxR (s.length + 1) [] 0 s).2.2 = 0 := by
    by_cases h0 : (lxR (s.length + 1) [] 0 s).2.2 = 0
    · exact h0
    · rw [if_neg h0] at h; exact absurd (Prod.mk.inj (Prod.mk.inj h).2).2 h0
  rw [if_pos h0] at h
  have hL : (lxR (s.length + 1) [] 0 s).1 = L := (Prod.mk.inj h).1
  obtain ⟨hb, _⟩ := lx_again nt (fun e => (hnt _ e).1 rfl) (s.length + 1) 0 0 s L (lxR (s.length + 1) [] 0 s).2.1 (by omega) (Prod.ext hL (Prod.ext rfl h0)) hk
  exact fun b hb' => (hb b hb').elim (fun h => (hnt b h).2) id
end Go.Proofs.YtjjacffacmpopaaDoor.LX
