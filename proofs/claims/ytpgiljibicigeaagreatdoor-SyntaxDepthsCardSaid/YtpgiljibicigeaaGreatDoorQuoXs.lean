/- quote: what Read tells of the bytes up to a fault. -/
import Derived.Test.YtpgiljibicigeaaGreatDoorQuoPs
import Derived.Laws.AppendOwnNone
set_option linter.unusedVariables false
set_option linter.unusedSimpArgs false
namespace Go.Proofs.YtpgiljibicigeaaGreatDoor
open Go.RowKit UM QM

theorem low_end (l : List Nat) (u : Nat) (h : (lowF l u).2.1 = true) : (lowF l u).2.2 ≤ l.length := by
  unfold lowF at h ⊢
  by_cases d1 : pk l u ≠ 92
  · rw [if_pos d1] at h; cases h
  rw [if_neg d1] at h ⊢
  by_cases d2 : pk l (u + 1) ≠ 117
  · rw [if_pos d2] at h; cases h
  rw [if_neg d2] at h ⊢
  have := pk_pos (l := l) (k := u + 1) (by have := Decidable.not_not.1 d2; omega)
  exact (unitF_at (l := l) (n := 4) (k := u + 2) (h := 0) (by omega)).2
end Go.Proofs.YtpgiljibicigeaaGreatDoor

/- quote: a text in quotes is read alike, whatever stands behind it. -/
namespace Go.Proofs.YtpgiljibicigeaaGreatDoor
open Go.RowKit UM QM

theorem unit_dig {l : List Nat} : ∀ {m k x : Nat}, (unitF l m k x).2.1 = true → (unitF l m k x).2.2 = k + m ∧ ∀ i, i < m → dgv (pk l (k + i)) ≠ none := by
  intro m
  induction m with
  | zero => intro k x _; exact ⟨rfl, fun i h => by omega⟩
  | succ m ih =>
    intro k x h1
    simp only [unitF] at h1 ⊢
    cases hd : dgv (pk l k) with
    | none => rw [hd] at h1; cases h1
    | some d =>
      rw [hd] at h1
      simp only at h1 ⊢
      obtain ⟨e1, e2⟩ := ih h1
      refine ⟨by omega, fun i hi => ?_⟩
      rcases Nat.eq_zero_or_pos i with rfl | h0
      · rw [Nat.add_zero, hd]; simp
      · have := e2 (i - 1) (by omega)
        rwa [show k + 1 + (i - 1) = k + i by omega] at this
end Go.Proofs.YtpgiljibicigeaaGreatDoor

/- 'append(l, more...)': l the call's own, more a slice that came in. -/
namespace Go.Proofs.YtpgiljibicigeaaGreatDoor
open Go.RowKit UM QM

section
variable {P : Program} {ops : Array Oper} {rest : List Oper} {o : Oper} {a : Act} {Q : Exit → Act → World → Prop}
end
theorem coded_le {l : List Nat} {k : Nat} (hk : k ≤ l.length) : (codedF l k).2.2 ≤ l.length := by
  have hu : (un l k).2.2 ≤ l.length := (unitF_at hk).2
  unfold codedF
  by_cases c0 : (un l k).2.1 = false
  · rw [if_pos c0]; exact hu
  rw [if_neg c0]
  by_cases c1 : (un l k).1 < 55296 ∨ 57343 < (un l k).1
  · rw [if_pos c1]; exact hu
  rw [if_neg c1]
  by_cases c2 : 56320 ≤ (un l k).1
  · rw [if_pos c2]; exact hu
  rw [if_neg c2]
  by_cases c3 : (lowF l (un l k).2.2).2.1 = true
  · rw [if_pos c3]; exact low_end l _ c3
  · rw [if_neg c3]; exact hu
theorem esc_le {l : List Nat} {k : Nat} (hk : k ≤ l.length) : (escF l k).2.2 ≤ l.length := by
  unfold escF
  by_cases h : pk l k = -1
  · rw [h]; exact hk
  have h1 := pk_pos h
  have h2 := coded_le (l := l) (k := k + 1) h1
  repeat' split
  all_goals (try simp only)
  all_goals omega
theorem piece_le {l : List Nat} {k : Nat} (hk : k ≤ l.length) : (pieceF l k).2.2 ≤ l.length := by
  unfold pieceF
  by_cases c1 : pk l k < 32
  · rw [if_pos c1]; exact hk
  rw [if_neg c1]
  have h1 : k < l.length := pk_pos (by omega)
  by_cases c2 : 127 < pk l k
  · rw [if_pos c2]
    unfold pointF
    by_cases c3 : (dcd ((l.drop k).take 4)).2.2 = true
    · rw [if_pos c3]
      rcases dcd_cases ((l.drop k).take 4) with ⟨p, t, hp, e1, e⟩ | ⟨_, e⟩ | ⟨_, e⟩
      · rw [e]
        have := congrArg List.length e1
        rw [List.length_append, enc_len, List.length_take, List.length_drop] at this
        simp only; omega
      · rw [e] at c3; cases c3
      · rw [e] at c3; cases c3
    rw [if_neg c3]
    by_cases c4 : cutB ((l.drop k).take 4) = true
    · rw [if_pos c4]; exact Nat.le_refl _
    · rw [if_neg c4]; exact hk
  rw [if_neg c2]
  by_cases c3 : pk l k = 92
  · rw [if_pos c3]; exact esc_le h1
  · rw [if_neg c3]; exact h1
theorem Tl.fin {l : List Nat} {k : Nat} {xs : List Int} {e err : Nat} (t : Tl l k xs e err) (hk : k ≤ l.length) : e ≤ l.length := by
  induction t with
  | stop hp => exact pk_pos (by rw [hp]; decide)
  | bad h h2 => exact piece_le hk
  | go hp h2 t ih => exact ih (piece_le hk)
theorem RdR.fin {l : List Nat} {xs : List Int} {n err : Nat} (h : RdR l xs n err) : n ≤ l.length := by
  rcases h with ⟨_, _, rfl, _⟩ | ⟨p, t⟩
  · exact Nat.zero_le _
  · exact t.fin (pk_pos (by rw [p]; decide))
end Go.Proofs.YtpgiljibicigeaaGreatDoor

/- lex: what the program tells, as functions of the bytes. Nothing of the program. -/
namespace Go.Proofs.YtpgiljibicigeaaGreatDoor.LX
open Go.Proofs.YtpgiljibicigeaaGreatDoor UM QM

def isLt (c : Nat) : Bool := (decide (97 ≤ c) && decide (c ≤ 122)) || (decide (65 ≤ c) && decide (c ≤ 90)) || c == 95
def isDg (c : Nat) : Bool := decide (48 ≤ c) && decide (c ≤ 57)
def runL (p : Nat → Bool) : List Nat → Nat
  | [] => 0
  | c :: t => if p c = true then runL p t + 1 else 0
def dgR (r : List Nat) : Nat := runL isDg r
def isNm (c : Nat) : Bool := isLt c || isDg c
def nmR : List Nat → Nat
  | [] => 0
  | c :: t => if isLt c = true then runL isNm t + 1 else 0
def sgR : List Nat → Nat
  | [] => 0
  | c :: _ => if c = 43 ∨ c = 45 then 1 else 0
def dbR (r : List Nat) (n m : Nat) : Nat := if 0 < dgR (r.drop m) then m + dgR (r.drop m) else n
def nu2 (r : List Nat) : Nat := if r[dgR r]? = some 46 then dbR r (dgR r) (dgR r + 1) else dgR r
def nuR (r : List Nat) : Nat := if r[nu2 r]? = some 101 ∨ r[nu2 r]? = some 69 then dbR r (nu2 r) (nu2 r + 1 + sgR (r.drop (nu2 r + 1))) else nu2 r
def bkR : Bool → List Nat → Nat
  | _, [] => 0
  | true, c :: t => if c = 10 then bkR false t + 1 else bkR true t + 1
  | false, c :: t => if c = 32 ∨ c = 9 ∨ c = 10 ∨ c = 13 then bkR false t + 1 else if c = 35 then bkR true t + 1 else 0
def sgL : List (List Nat) := [[47, 47, 61], [124, 61], [43, 61], [45, 61], [42, 61], [47, 61], [37, 61], [47, 47], [61, 61], [33, 61], [60, 61], [62, 61], [46, 46], [46], [91], [93], [123], [125], [40], [41], [124], [44], [61], [60], [62], [43], [45], [42], [47], [37], [63], [58], [59]]
/-- is it a prefix? -/
def pfx : List Nat → List Nat → Bool
  | [], _ => true
  | _ :: _, [] => false
  | a :: s, b :: r => b == a && pfx s r
def fsF : List (List Nat) → List Nat → List Nat
  | [], _ => []
  | s :: l, r => if pfx s r = true then s else fsF l r
def sgnR (r : List Nat) : List Nat := fsF sgL r
def inn (op : List Nat) : Nat := op.headD 0
abbrev Tk := Nat × List Nat × Nat
/-- a token outside texts: the error; its kind, its text, its size, what is open behind it -/
def tkR (op : List Nat) : List Nat → Nat × Nat × List Nat × Nat × List Nat
  | [] => (2, 0, [], 0, op)
  | c :: t =>
    if isLt c = true then (0, 2, (c :: t).take (nmR (c :: t)), nmR (c :: t), op)
    else if isDg c = true then (0, 1, (c :: t).take (nuR (c :: t)), nuR (c :: t), op)
    else if c = 46 ∧ 0 < nmR t then (0, 3, t.take (nmR t), nmR t + 1, op)
    else if c = 36 ∧ 0 < nmR t then (0, 4, t.take (nmR t), nmR t + 1, op)
    else if c = 64 ∧ 0 < nmR t then (0, 5, (c :: t).take (nmR t + 1), nmR t + 1, op)
    else if c = 34 then (if op.count 1 = 50 then (6, 0, [], 0, op) else (0, 7, [], 1, 1 :: op))
    else if sgnR (c :: t) = [] then (2, 0, [], 0, op)
    else if sgnR (c :: t) = [41] ∧ inn op = 2 then (0, 10, [], 1, op.tail)
    else if sgnR (c :: t) = [41] ∧ inn op = 3 then (0, 6, [41], 1, op.tail)
    else if sgnR (c :: t) = [40] then (0, 6, [40], 1, 3 :: op)
    else (0, 6, sgnR (c :: t), (sgnR (c :: t)).length, op)
/-- how many bytes pieces in a row have that begin with a backslash, the last one uncut -/
def ecR : Nat → List Nat → Nat
  | 0, _ => 0
  | _ + 1, [] => 0
  | f + 1, c :: t => if c = 92 then (if t.head? = some 40 then 0 else if t.head? = some 117 then ecR f (t.drop 5) + 6 else ecR f (t.drop 1) + 2) else 0
theorem rd_ex3 (l : List Nat) : ∃ p : List Int × Nat × Nat, RdR l p.1 p.2.1 p.2.2 := by
  by_cases h : pk l 0 = 34
  · obtain ⟨xs, e, err, t⟩ := Tl.ex l (l.length + 1) 1 (by omega)
    exact ⟨(xs, e, err), .inr ⟨h, t⟩⟩
  · exact ⟨([], 0, faultF l 0), .inl ⟨h, rfl, rfl, rfl⟩⟩
noncomputable def rdP (l : List Nat) : List Int × Nat × Nat := Classical.choose (rd_ex3 l)
theorem rdP_spec (l : List Nat) : RdR l (rdP l).1 (rdP l).2.1 (rdP l).2.2 := Classical.choose_spec (rd_ex3 l)
/-- the row of pieces at a place -/
def rowR (r : List Nat) : List Nat := r.take (ecR r.length r)
/-- what quote.Read tells of the row -/
noncomputable def rdR (r : List Nat) : List Int × Nat × Nat := rdP (34 :: rowR r ++ [34])
/-- the last backslash's place -/
def lasF : List Nat → Nat
  | [] => 0
  | c :: t => if c = 92 then (if t.contains 92 then lasF t + 1 else 0) else lasF t + 1
def app (x : List Nat) (n : Nat) (q : Nat × Nat × List Nat) : Nat × Nat × List Nat := (q.1, n + q.2.1, x ++ q.2.2)
/-- a text's pieces up to what ends them: 0 a quote, 1 a \(, 2 wrong, 5 short; how many bytes; what they stand for -/
noncomputable def pcR : Nat → List Nat → Nat × Nat × List Nat
  | 0, _ => (5, 0, [])
  | _ + 1, [] => (5, 0, [])
  | f + 1, c :: t =>
    if c = 34 then (0, 0, []) else if c = 92 ∧ t.head? = some 40 then (1, 0, []) else
    if c = 92 then
      (if (rdR (c :: t)).2.2 = 0 then app (encL ((rdR (c :: t)).1.map Int.toNat)) (rowR (c :: t)).length (pcR f ((c :: t).drop (rowR (c :: t)).length))
      else if (c :: t).length + 1 ≤ (rdR (c :: t)).2.1 then (5, (c :: t).length, []) else (2, lasF ((c :: t).take ((rdR (c :: t)).2.1 - 1)), []))
    else app [c] 1 (pcR f t)
def pre (l : List Tk) (q : List Tk × Nat × Nat) : List Tk × Nat × Nat := (l ++ q.1, q.2)
def skR (op r : List Nat) : Nat := if inn op = 1 then 0 else bkR false r
def txR (p n : Nat) (s : List Nat) : List Tk := if 0 < n then [(8, s, p)] else []
/-- all tokens: where it stops, with which error -/
noncomputable def lxR : Nat → List Nat → Nat → List Nat → List Tk × Nat × Nat
  | 0, _, _, _ => ([], 0, 99)
  | f + 1, op, p, r =>
    if r.drop (skR op r) = [] then ([], p + r.length, if 0 < op.count 1 then 5 else 0) else
    if inn op = 1 then
      (if (pcR r.length r).1 = 0 then pre (txR p (pcR r.length r).2.1 (pcR r.length r).2.2 ++ [(11, [], p + (pcR r.length r).2.1)]) (lxR f op.tail (p + (pcR r.length r).2.1 + 1) (r.drop ((pcR r.length r).2.1 + 1)))
      else if (pcR r.length r).1 = 1 then pre (txR p (pcR r.length r).2.1 (pcR r.length r).2.2 ++ [(9, [], p + (pcR r.length r).2.1)]) (lxR f (2 :: op) (p + (pcR r.length r).2.1 + 2) (r.drop ((pcR r.length r).2.1 + 2)))
      else if (pcR r.length r).1 = 5 then ([], p + r.length, 5) else ([], p + (pcR r.length r).2.1, 2))
    else
      (if (tkR op (r.drop (skR op r))).1 = 0 then
        pre [((tkR op (r.drop (skR op r))).2.1, (tkR op (r.drop (skR op r))).2.2.1, p + skR op r)] (lxR f (tkR op (r.drop (skR op r))).2.2.2.2 (p + skR op r + (tkR op (r.drop (skR op r))).2.2.2.1) (r.drop (skR op r + (tkR op (r.drop (skR op r))).2.2.2.1)))
      else ([], p + skR op r, (tkR op (r.drop (skR op r))).1))
noncomputable def tkF (l : List Nat) : List Tk × Nat × Nat :=
  if 100000 < l.length then ([], 0, 10) else if vd l < l.length then ([], vd l, 7) else
  if (lxR (l.length + 1) [] 0 l).2.2 = 0 then ((lxR (l.length + 1) [] 0 l).1, 0, 0) else ([], (lxR (l.length + 1) [] 0 l).2)
/- sizes -/
theorem runL_le (p : Nat → Bool) : ∀ l : List Nat, runL p l ≤ l.length
  | [] => Nat.le_refl _
  | c :: t => by
    have := runL_le p t
    simp only [runL]; split <;> simp <;> omega
theorem nmR_le : ∀ r : List Nat, nmR r ≤ r.length
  | [] => Nat.le_refl _
  | c :: t => by
    have := runL_le isNm t
    simp only [nmR]; split <;> simp <;> omega
theorem dgR_le (r : List Nat) : dgR r ≤ r.length := runL_le _ _
theorem sgR_le : ∀ r : List Nat, sgR r ≤ r.length
  | [] => Nat.le_refl _
  | c :: t => by simp only [sgR]; split <;> simp
theorem dbR_le {r : List Nat} {n m : Nat} (hn : n ≤ r.length) : dbR r n m ≤ r.length := by
  unfold dbR
  split
  · rename_i h
    have := dgR_le (r.drop m)
    rw [List.length_drop] at this
    omega
  · exact hn
theorem dbR_ge {r : List Nat} {n m : Nat} (hn : n ≤ m) : n ≤ dbR r n m := by
  unfold dbR; split <;> omega
theorem nu2_le (r : List Nat) : nu2 r ≤ r.length := by
  unfold nu2; split
  · exact dbR_le (dgR_le r)
  · exact dgR_le r
theorem nuR_le (r : List Nat) : nuR r ≤ r.length := by
  unfold nuR; split
  · exact dbR_le (nu2_le r)
  · exact nu2_le r
theorem nuR_pos {c : Nat} {t : List Nat} (h : isDg c = true) : 0 < nuR (c :: t) := by
  have h1 : 0 < dgR (c :: t) := by unfold dgR; simp only [runL]; rw [if_pos h]; omega
  have h2 : 0 < nu2 (c :: t) := by
    unfold nu2; split
    · exact Nat.lt_of_lt_of_le h1 (dbR_ge (by omega))
    · exact h1
  unfold nuR; split
  · exact Nat.lt_of_lt_of_le h2 (dbR_ge (by omega))
  · exact h2
theorem nmR_pos {c : Nat} {t : List Nat} (h : isLt c = true) : 0 < nmR (c :: t) := by simp only [nmR]; rw [if_pos h]; omega
theorem bkR_le : ∀ (b : Bool) (r : List Nat), bkR b r ≤ r.length
  | _, [] => by simp [bkR]
  | true, c :: t => by
    have h1 := bkR_le true t; have h2 := bkR_le false t
    simp only [bkR, List.length_cons]; split <;> omega
  | false, c :: t => by
    have h1 := bkR_le true t; have h2 := bkR_le false t
    simp only [bkR, List.length_cons]; split
    · omega
    · split <;> omega
theorem pfx_le : ∀ {s r : List Nat}, pfx s r = true → s.length ≤ r.length ∧ r.take s.length = s
  | [], _, _ => by simp
  | _ :: _, [], h => by simp [pfx] at h
  | a :: s, b :: r, h => by
    simp only [pfx, Bool.and_eq_true, beq_iff_eq] at h
    obtain ⟨rfl, h⟩ := h
    obtain ⟨h1, h2⟩ := pfx_le h
    simp [h1, h2]
theorem fsF_mem : ∀ {l : List (List Nat)} {r : List Nat}, fsF l r ≠ [] → fsF l r ∈ l ∧ pfx (fsF l r) r = true
  | [], _, h => absurd rfl h
  | s :: l, r, h => by
    simp only [fsF] at h ⊢
    by_cases hp : pfx s r = true
    · rw [if_pos hp]; exact ⟨List.mem_cons_self .., hp⟩
    · rw [if_neg hp] at h ⊢
      obtain ⟨h1, h2⟩ := fsF_mem h
      exact ⟨List.mem_cons_of_mem _ h1, h2⟩
theorem skR_le (op r : List Nat) : skR op r ≤ r.length := by
  unfold skR; split
  · omega
  · exact bkR_le _ _
end Go.Proofs.YtpgiljibicigeaaGreatDoor.LX
