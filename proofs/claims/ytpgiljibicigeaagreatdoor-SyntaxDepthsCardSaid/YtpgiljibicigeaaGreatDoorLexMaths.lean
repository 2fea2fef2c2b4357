/- lex: what the program tells, as functions of the bytes. Nothing of the program. -/
import Derived.Test.YtpgiljibicigeaaGreatDoorQuoIs
import Derived.Test.YtpgiljibicigeaaGreatDoorDecPas
set_option linter.unusedVariables false
set_option linter.unusedSimpArgs false
namespace Go.Proofs.YtpgiljibicigeaaGreatDoor.LX
open Go.Proofs.YtpgiljibicigeaaGreatDoor UM QM

def isLt (c : Nat) : Bool := (decide (97 ≤ c) && decide (c ≤ 122)) || (decide (65 ≤ c) && decide (c ≤ 90)) || c == 95
def isDg (c : Nat) : Bool := decide (48 ≤ c) && decide (c ≤ 57)
def runL (p : Nat → Bool) : List Nat → Nat
  | [] => 0
  | c :: t => if p c = true then runL p t + 1 else 0
def dgR (r : List Nat) : Nat := runL isDg r
def isNm (c : Nat) : Bool := isLt c || isDg c
def nmR : List Nat → Nat
  | [] => 0
  | c :: t => if isLt c = true then runL isNm t + 1 else 0
def sgR : List Nat → Nat
  | [] => 0
  | c :: _ => if c = 43 ∨ c = 45 then 1 else 0
def dbR (r : List Nat) (n m : Nat) : Nat := if 0 < dgR (r.drop m) then m + dgR (r.drop m) else n
def nu2 (r : List Nat) : Nat := if r[dgR r]? = some 46 then dbR r (dgR r) (dgR r + 1) else dgR r
def nuR (r : List Nat) : Nat := if r[nu2 r]? = some 101 ∨ r[nu2 r]? = some 69 then dbR r (nu2 r) (nu2 r + 1 + sgR (r.drop (nu2 r + 1))) else nu2 r
def bkR : Bool → List Nat → Nat
  | _, [] => 0
  | true, c :: t => if c = 10 then bkR false t + 1 else bkR true t + 1
  | false, c :: t => if c = 32 ∨ c = 9 ∨ c = 10 ∨ c = 13 then bkR false t + 1 else if c = 35 then bkR true t + 1 else 0
def sgL : List (List Nat) := [[47, 47, 61], [124, 61], [43, 61], [45, 61], [42, 61], [47, 61], [37, 61], [47, 47], [61, 61], [33, 61], [60, 61], [62, 61], [46, 46], [46], [91], [93], [123], [125], [40], [41], [124], [44], [61], [60], [62], [43], [45], [42], [47], [37], [63], [58], [59]]
/-- is it a prefix? -/
def pfx : List Nat → List Nat → Bool
  | [], _ => true
  | _ :: _, [] => false
  | a :: s, b :: r => b == a && pfx s r
def fsF : List (List Nat) → List Nat → List Nat
  | [], _ => []
  | s :: l, r => if pfx s r = true then s else fsF l r
def sgnR (r : List Nat) : List Nat := fsF sgL r
def inn (op : List Nat) : Nat := op.headD 0
abbrev Tk := Nat × List Nat × Nat
/-- a token outside texts: the error; its kind, its text, its size, what is open behind it -/
def tkR (op : List Nat) : List Nat → Nat × Nat × List Nat × Nat × List Nat
  | [] => (2, 0, [], 0, op)
  | c :: t =>
    if isLt c = true then (0, 2, (c :: t).take (nmR (c :: t)), nmR (c :: t), op)
    else if isDg c = true then (0, 1, (c :: t).take (nuR (c :: t)), nuR (c :: t), op)
    else if c = 46 ∧ 0 < nmR t then (0, 3, t.take (nmR t), nmR t + 1, op)
    else if c = 36 ∧ 0 < nmR t then (0, 4, t.take (nmR t), nmR t + 1, op)
    else if c = 64 ∧ 0 < nmR t then (0, 5, (c :: t).take (nmR t + 1), nmR t + 1, op)
    else if c = 34 then (if op.count 1 = 50 then (6, 0, [], 0, op) else (0, 7, [], 1, 1 :: op))
    else if sgnR (c :: t) = [] then (2, 0, [], 0, op)
    else if sgnR (c :: t) = [41] ∧ inn op = 2 then (0, 10, [], 1, op.tail)
    else if sgnR (c :: t) = [41] ∧ inn op = 3 then (0, 6, [41], 1, op.tail)
    else if sgnR (c :: t) = [40] then (0, 6, [40], 1, 3 :: op)
    else (0, 6, sgnR (c :: t), (sgnR (c :: t)).length, op)
/-- how many bytes pieces in a row have that begin with a backslash, the last one uncut -/
def ecR : Nat → List Nat → Nat
  | 0, _ => 0
  | _ + 1, [] => 0
  | f + 1, c :: t => if c = 92 then (if t.head? = some 40 then 0 else if t.head? = some 117 then ecR f (t.drop 5) + 6 else ecR f (t.drop 1) + 2) else 0
theorem rd_ex3 (l : List Nat) : ∃ p : List Int × Nat × Nat, RdR l p.1 p.2.1 p.2.2 := by
  by_cases h : pk l 0 = 34
  · obtain ⟨xs, e, err, t⟩ := Tl.ex l (l.length + 1) 1 (by omega)
    exact ⟨(xs, e, err), .inr ⟨h, t⟩⟩
  · exact ⟨([], 0, faultF l 0), .inl ⟨h, rfl, rfl, rfl⟩⟩
noncomputable def rdP (l : List Nat) : List Int × Nat × Nat := Classical.choose (rd_ex3 l)
theorem rdP_spec (l : List Nat) : RdR l (rdP l).1 (rdP l).2.1 (rdP l).2.2 := Classical.choose_spec (rd_ex3 l)
/-- the row of pieces at a place -/
def rowR (r : List Nat) : List Nat := r.take (ecR r.length r)
/-- what quote.Read tells of the row -/
noncomputable def rdR (r : List Nat) : List Int × Nat × Nat := rdP (34 :: rowR r ++ [34])
/-- the last backslash's place -/
def lasF : List Nat → Nat
  | [] => 0
  | c :: t => if c = 92 then (if t.contains 92 then lasF t + 1 else 0) else lasF t + 1
def app (x : List Nat) (n : Nat) (q : Nat × Nat × List Nat) : Nat × Nat × List Nat := (q.1, n + q.2.1, x ++ q.2.2)
/-- a text's pieces up to what ends them: 0 a quote, 1 a \(, 2 wrong, 5 short; how many bytes; what they stand for -/
noncomputable def pcR : Nat → List Nat → Nat × Nat × List Nat
  | 0, _ => (5, 0, [])
  | _ + 1, [] => (5, 0, [])
  | f + 1, c :: t =>
    if c = 34 then (0, 0, []) else if c = 92 ∧ t.head? = some 40 then (1, 0, []) else
    if c = 92 then
      (if (rdR (c :: t)).2.2 = 0 then app (encL ((rdR (c :: t)).1.map Int.toNat)) (rowR (c :: t)).length (pcR f ((c :: t).drop (rowR (c :: t)).length))
      else if (c :: t).length + 1 ≤ (rdR (c :: t)).2.1 then (5, (c :: t).length, []) else (2, lasF ((c :: t).take ((rdR (c :: t)).2.1 - 1)), []))
    else app [c] 1 (pcR f t)
def pre (l : List Tk) (q : List Tk × Nat × Nat) : List Tk × Nat × Nat := (l ++ q.1, q.2)
def skR (op r : List Nat) : Nat := if inn op = 1 then 0 else bkR false r
def txR (p n : Nat) (s : List Nat) : List Tk := if 0 < n then [(8, s, p)] else []
/-- all tokens: where it stops, with which error -/
noncomputable def lxR : Nat → List Nat → Nat → List Nat → List Tk × Nat × Nat
  | 0, _, _, _ => ([], 0, 99)
  | f + 1, op, p, r =>
    if r.drop (skR op r) = [] then ([], p + r.length, if 0 < op.count 1 then 5 else 0) else
    if inn op = 1 then
      (if (pcR r.length r).1 = 0 then pre (txR p (pcR r.length r).2.1 (pcR r.length r).2.2 ++ [(11, [], p + (pcR r.length r).2.1)]) (lxR f op.tail (p + (pcR r.length r).2.1 + 1) (r.drop ((pcR r.length r).2.1 + 1)))
      else if (pcR r.length r).1 = 1 then pre (txR p (pcR r.length r).2.1 (pcR r.length r).2.2 ++ [(9, [], p + (pcR r.length r).2.1)]) (lxR f (2 :: op) (p + (pcR r.length r).2.1 + 2) (r.drop ((pcR r.length r).2.1 + 2)))
      else if (pcR r.length r).1 = 5 then ([], p + r.length, 5) else ([], p + (pcR r.length r).2.1, 2))
    else
      (if (tkR op (r.drop (skR op r))).1 = 0 then
        pre [((tkR op (r.drop (skR op r))).2.1, (tkR op (r.drop (skR op r))).2.2.1, p + skR op r)] (lxR f (tkR op (r.drop (skR op r))).2.2.2.2 (p + skR op r + (tkR op (r.drop (skR op r))).2.2.2.1) (r.drop (skR op r + (tkR op (r.drop (skR op r))).2.2.2.1)))
      else ([], p + skR op r, (tkR op (r.drop (skR op r))).1))
noncomputable def tkF (l : List Nat) : List Tk × Nat × Nat :=
  if 100000 < l.length then ([], 0, 10) else if vd l < l.length then ([], vd l, 7) else
  if (lxR (l.length + 1) [] 0 l).2.2 = 0 then ((lxR (l.length + 1) [] 0 l).1, 0, 0) else ([], (lxR (l.length + 1) [] 0 l).2)
/- sizes -/
theorem runL_le (p : Nat → Bool) : ∀ l : List Nat, runL p l ≤ l.length
  | [] => Nat.le_refl _
  | c :: t => by
    have := runL_le p t
    simp only [runL]; split <;> simp <;> omega
theorem nmR_le : ∀ r : List Nat, nmR r ≤ r.length
  | [] => Nat.le_refl _
  | c :: t => by
    have := runL_le isNm t
    simp only [nmR]; split <;> simp <;> omega
theorem dgR_le (r : List Nat) : dgR r ≤ r.length := runL_le _ _
theorem sgR_le : ∀ r : List Nat, sgR r ≤ r.length
  | [] => Nat.le_refl _
  | c :: t => by simp only [sgR]; split <;> simp
theorem dbR_le {r : List Nat} {n m : Nat} (hn : n ≤ r.length) : dbR r n m ≤ r.length := by
  unfold dbR
  split
  · rename_i h
    have := dgR_le (r.drop m)
    rw [List.length_drop] at this
    omega
  · exact hn
theorem dbR_ge {r : List Nat} {n m : Nat} (hn : n ≤ m) : n ≤ dbR r n m := by
  unfold dbR; split <;> omega
theorem nu2_le (r : List Nat) : nu2 r ≤ r.length := by
  unfold nu2; split
  · exact dbR_le (dgR_le r)
  · exact dgR_le r
theorem nuR_le (r : List Nat) : nuR r ≤ r.length := by
  unfold nuR; split
  · exact dbR_le (nu2_le r)
  · exact nu2_le r
theorem nuR_pos {c : Nat} {t : List Nat} (h : isDg c = true) : 0 < nuR (c :: t) := by
  have h1 : 0 < dgR (c :: t) := by unfold dgR; simp only [runL]; rw [if_pos h]; omega
  have h2 : 0 < nu2 (c :: t) := by
    unfold nu2; split
    · exact Nat.lt_of_lt_of_le h1 (dbR_ge (by omega))
    · exact h1
  unfold nuR; split
  · exact Nat.lt_of_lt_of_le h2 (dbR_ge (by omega))
  · exact h2
theorem nmR_pos {c : Nat} {t : List Nat} (h : isLt c = true) : 0 < nmR (c :: t) := by simp only [nmR]; rw [if_pos h]; omega
theorem bkR_le : ∀ (b : Bool) (r : List Nat), bkR b r ≤ r.length
  | _, [] => by simp [bkR]
  | true, c :: t => by
    have h1 := bkR_le true t; have h2 := bkR_le false t
    simp only [bkR, List.length_cons]; split <;> omega
  | false, c :: t => by
    have h1 := bkR_le true t; have h2 := bkR_le false t
    simp only [bkR, List.length_cons]; split
    · omega
    · split <;> omega
theorem pfx_le : ∀ {s r : List Nat}, pfx s r = true → s.length ≤ r.length ∧ r.take s.length = s
  | [], _, _ => by simp
  | _ :: _, [], h => by simp [pfx] at h
  | a :: s, b :: r, h => by
    simp only [pfx, Bool.and_eq_true, beq_iff_eq] at h
    obtain ⟨rfl, h⟩ := h
    obtain ⟨h1, h2⟩ := pfx_le h
    simp [h1, h2]
theorem fsF_mem : ∀ {l : List (List Nat)} {r : List Nat}, fsF l r ≠ [] → fsF l r ∈ l ∧ pfx (fsF l r) r = true
  | [], _, h => absurd rfl h
  | s :: l, r, h => by
    simp only [fsF] at h ⊢
    by_cases hp : pfx s r = true
    · rw [if_pos hp]; exact ⟨List.mem_cons_self .., hp⟩
    · rw [if_neg hp] at h ⊢
      obtain ⟨h1, h2⟩ := fsF_mem h
      exact ⟨List.mem_cons_of_mem _ h1, h2⟩
theorem skR_le (op r : List Nat) : skR op r ≤ r.length := by
  unfold skR; split
  · omega
  · exact bkR_le _ _
end Go.Proofs.YtpgiljibicigeaaGreatDoor.LX

/- syntax: what the parser tells, as functions of the tokens. Nothing of the program. -/
namespace Go.Proofs.YtpgiljibicigeaaGreatDoor.SX

inductive Nd where | mk (kind : Nat) (text : ByteArray) (kids : List Nd)
inductive Rs (α : Type) where | ok (x : α) (i : Nat) | err (a e : Nat)
def Rs.bind {α β : Type} (r : Rs α) (f : α → Nat → Rs β) : Rs β := match r with | .ok x i => f x i | .err a e => .err a e
abbrev T3 := Nat × ByteArray × Nat
structure Ev where
  L : List T3
  E : Nat
  num : ByteArray → Nat
  wrd : ByteArray → Bool
/-- what holds of what was told, else of the fault -/
def Rs.all {α : Type} (r : Rs α) (P : α → Nat → Prop) (Q : Nat → Nat → Prop) : Prop := match r with | .ok x j => P x j | .err a e => Q a e
theorem all_bind {α β : Type} {r : Rs α} {f : α → Nat → Rs β} {P : α → Nat → Prop} {P' : β → Nat → Prop} {Q : Nat → Nat → Prop} (h : r.all P Q) (hf : ∀ x j, P x j → (f x j).all P' Q) : (r.bind f).all P' Q := by
  cases r with
  | ok x j => exact hf x j h
  | err a e => exact h
theorem all_mono {α : Type} {r : Rs α} {P P' : α → Nat → Prop} {Q : Nat → Nat → Prop} (h : r.all P Q) (hf : ∀ x j, P x j → P' x j) : r.all P' Q := by
  cases r with
  | ok x j => exact hf x j h
  | err a e => exact h
/-- are two texts the same? -/
def seq (a b : ByteArray) : Bool := a.data.toList == b.data.toList
abbrev nil : ByteArray := ⟨#[]⟩

section
variable (v : Ev)
def tkn (i : Nat) : T3 := (v.L[i]?).getD (0, ⟨#[]⟩, 0)
def plc (i : Nat) : Nat := if i = v.L.length then v.E else (tkn v i).2.2
def unf {α : Type} (i : Nat) : Rs α := .err (plc v i) (if i = v.L.length then 5 else 2)
def isT (t : T3) (s : ByteArray) : Bool := (t.1 == 6 || t.1 == 2) && seq t.2.1 s
def isS (i : Nat) (s : ByteArray) : Bool := isT (tkn v i) s
def tak (k i : Nat) : Rs ByteArray := if (tkn v i).1 = k then .ok (tkn v i).2.1 (i + 1) else unf v i
def ned (s : ByteArray) (i : Nat) : Rs Unit := if isS v i s = true then .ok () (i + 1) else unf v i

/-- what the rules ask for that begins further on -/
structure Kn where
  pipe : Nat → Nat → Rs Nd
  climb : Nat → Nat → Nat → Rs Nd
  neg : Nat → Nat → Rs Nd
  post : Nat → Nat → Rs Nd
  pat : Nat → Nat → Rs Nd
  choice : Nat → Nat → Rs Nd

def slf : Nd := .mk 1 nil []
def non : Nd := .mk 32 nil []
def pln (s : ByteArray) : Nd := .mk 4 nil [.mk 5 s []]
def ixN (a b : Nd) : Nd := .mk 10 nil [a, b]
def heldN (s : ByteArray) (a b : Nd) : Nd := if seq s ⟨#[44]⟩ = true then .mk 16 nil [a, b] else .mk 17 s [a, b]

/-- items with a sign between, up to one that ends them -/
def rowL (item : Nat → Rs Nd) (btw fin : ByteArray) : Nat → List Nd → Nat → Rs (List Nd)
  | 0, _, _ => .err 0 99
  | f + 1, acc, i => if isS v i fin = true then .ok acc (i + 1) else (ned v btw i).bind fun _ j => (item j).bind fun x k => rowL item btw fin f (acc ++ [x]) k
def rowF (item : Nat → Rs Nd) (btw fin : ByteArray) (i : Nat) : Rs (List Nd) := (item i).bind fun x j => rowL v item btw fin (v.L.length + 1) [x] j

variable (K : Kn)
def textL (pp : Nat) : Nat → List Nd → Nat → Rs (List Nd)
  | 0, _, _ => .err 0 99
  | f + 1, acc, i =>
    if (tkn v i).1 = 8 then textL pp f (acc ++ [.mk 5 (tkn v i).2.1 []]) (i + 1)
    else if (tkn v i).1 = 9 then (K.pipe pp (i + 1)).bind fun x j => (tak v 10 j).bind fun _ k => textL pp f (acc ++ [x]) k
    else (tak v 11 i).bind fun _ j => .ok acc j
def textF (pp : Nat) (fmt : ByteArray) (i : Nat) : Rs Nd := (tak v 7 i).bind fun _ j => (textL v K pp (v.L.length + 1) [] j).bind fun ks k => .ok (.mk 4 fmt ks) k
def numberF (i : Nat) : Rs Nd := if v.num (tkn v i).2.1 = 0 then (tak v 1 i).bind fun s j => .ok (.mk 3 s []) j else .err (plc v i) (v.num (tkn v i).2.1)
def formatF (pp i : Nat) : Rs Nd := (tak v 5 i).bind fun s j => if (tkn v j).1 = 7 then textF v K pp s j else .ok (.mk 6 s []) j
def ownF (i : Nat) : Rs ByteArray := if v.wrd (tkn v i).2.1 = true then unf v i else tak v 2 i
def litKeyF (i : Nat) : Rs ByteArray :=
  if (tkn v i).1 = 7 then (tak v 7 i).bind fun _ j => if (tkn v j).1 = 8 then (tak v 8 j).bind fun s k => (tak v 11 k).bind fun _ l => .ok s l else (tak v 11 j).bind fun _ l => .ok nil l
  else tak v 2 i
def patKeyF (pp i : Nat) : Rs Nd :=
  if (tkn v i).1 = 4 then (tak v 4 i).bind fun s j => .ok (.mk 31 s [.mk 28 s []]) j
  else (litKeyF v i).bind fun s j => (ned v ⟨#[58]⟩ j).bind fun _ k => (K.pat pp k).bind fun p l => .ok (.mk 31 s [p]) l
def patternF (pp i : Nat) : Rs Nd :=
  if isS v i ⟨#[91]⟩ = true then (rowF v (K.pat pp) ⟨#[44]⟩ ⟨#[93]⟩ (i + 1)).bind fun ks j => .ok (.mk 29 nil ks) j
  else if isS v i ⟨#[123]⟩ = true then (rowF v (patKeyF v K pp) ⟨#[44]⟩ ⟨#[125]⟩ (i + 1)).bind fun ks j => .ok (.mk 30 nil ks) j
  else (tak v 4 i).bind fun s j => .ok (.mk 28 s []) j
def keyF (pp i : Nat) : Rs Nd := if (tkn v i).1 = 7 then textF v K pp nil i else (tak v 2 i).bind fun s j => .ok (pln s) j
def entryF (pp i : Nat) : Rs Nd :=
  if (tkn v i).1 = 4 then (tak v 4 i).bind fun s j => .ok (.mk 9 nil [pln s, .mk 24 s []]) j
  else if isS v i ⟨#[40]⟩ = true then (K.pipe pp (i + 1)).bind fun key j => (ned v ⟨#[41]⟩ j).bind fun _ k => (ned v ⟨#[58]⟩ k).bind fun _ l => (K.climb 1 pp l).bind fun x m => .ok (.mk 9 nil [key, x]) m
  else (keyF v K pp i).bind fun key j => if isS v j ⟨#[58]⟩ = true then (K.climb 1 pp (j + 1)).bind fun x m => .ok (.mk 9 nil [key, x]) m else .ok (.mk 9 nil [key, ixN slf key]) j
def signedF (pp i : Nat) : Rs Nd :=
  if isS v i ⟨#[46]⟩ = true then (if (tkn v (i + 1)).1 = 7 then (textF v K pp nil (i + 1)).bind fun t j => .ok (ixN slf t) j else .ok slf (i + 1))
  else if isS v i ⟨#[46, 46]⟩ = true then .ok (.mk 2 nil []) (i + 1)
  else if isS v i ⟨#[40]⟩ = true then (K.pipe pp (i + 1)).bind fun x j => (ned v ⟨#[41]⟩ j).bind fun _ k => .ok x k
  else if isS v i ⟨#[91]⟩ = true then (if isS v (i + 1) ⟨#[93]⟩ = true then .ok (.mk 7 nil []) (i + 2) else (K.pipe pp (i + 1)).bind fun x j => (ned v ⟨#[93]⟩ j).bind fun _ k => .ok (.mk 7 nil [x]) k)
  else if isS v i ⟨#[123]⟩ = true then (if isS v (i + 1) ⟨#[125]⟩ = true then .ok (.mk 8 nil []) (i + 2) else (rowF v (entryF v K pp) ⟨#[44]⟩ ⟨#[125]⟩ (i + 1)).bind fun ks j => .ok (.mk 8 nil ks) j)
  else unf v i
def callF (pp i : Nat) : Rs Nd := (ownF v i).bind fun s j => if isS v j ⟨#[40]⟩ = true then (rowF v (K.pipe pp) ⟨#[59]⟩ ⟨#[41]⟩ (j + 1)).bind fun ks k => .ok (.mk 25 s ks) k else .ok (.mk 25 s []) j
/-- behind what is chosen -/
def otherF (pp i : Nat) : Rs Nd :=
  if isS v i ⟨#[101, 108, 105, 102]⟩ = true then K.choice pp (i + 1)
  else if isS v i ⟨#[101, 108, 115, 101]⟩ = true then (K.pipe pp (i + 1)).bind fun x j => (ned v ⟨#[101, 110, 100]⟩ j).bind fun _ k => .ok x k
  else (ned v ⟨#[101, 110, 100]⟩ i).bind fun _ j => .ok non j
def choiceF (pp i : Nat) : Rs Nd := (K.pipe pp i).bind fun c j => (ned v ⟨#[116, 104, 101, 110]⟩ j).bind fun _ k => (K.pipe pp k).bind fun t l => (otherF v K pp l).bind fun o m => .ok (.mk 18 nil [c, t, o]) m
def attemptF (pp i : Nat) : Rs Nd := (K.post pp i).bind fun x j => if isS v j ⟨#[99, 97, 116, 99, 104]⟩ = true then (K.post pp (j + 1)).bind fun y k => .ok (.mk 13 nil [x, y]) k else .ok (.mk 13 nil [x]) j
def sourceF (pp i : Nat) : Rs (Nd × Nd × Nd) := (K.post pp i).bind fun x j => (ned v ⟨#[97, 115]⟩ j).bind fun _ k => (K.pat pp k).bind fun p l => (ned v ⟨#[40]⟩ l).bind fun _ m => (K.pipe pp m).bind fun s n => (ned v ⟨#[59]⟩ n).bind fun _ o => .ok (x, p, s) o
def reduceF (pp i : Nat) : Rs Nd := (sourceF v K pp i).bind fun q j => (K.pipe pp j).bind fun s k => (ned v ⟨#[41]⟩ k).bind fun _ l => .ok (.mk 19 nil [q.1, q.2.1, q.2.2, s]) l
def foreachF (pp i : Nat) : Rs Nd := (sourceF v K pp i).bind fun q j => (K.pipe pp j).bind fun s k =>
  if isS v k ⟨#[59]⟩ = true then (K.pipe pp (k + 1)).bind fun t l => (ned v ⟨#[41]⟩ l).bind fun _ m => .ok (.mk 20 nil [q.1, q.2.1, q.2.2, s, t]) m
  else (ned v ⟨#[41]⟩ k).bind fun _ m => .ok (.mk 20 nil [q.1, q.2.1, q.2.2, s, non]) m
def namedF (pp i : Nat) : Rs Nd :=
  if isS v i ⟨#[105, 102]⟩ = true then choiceF v K pp (i + 1)
  else if isS v i ⟨#[116, 114, 121]⟩ = true then attemptF v K pp (i + 1)
  else if isS v i ⟨#[114, 101, 100, 117, 99, 101]⟩ = true then reduceF v K pp (i + 1)
  else if isS v i ⟨#[102, 111, 114, 101, 97, 99, 104]⟩ = true then foreachF v K pp (i + 1)
  else if isS v i ⟨#[98, 114, 101, 97, 107]⟩ = true then (tak v 4 (i + 1)).bind fun s j => .ok (.mk 22 s []) j
  else callF v K pp i
def termF (pp i : Nat) : Rs Nd :=
  if (tkn v i).1 = 1 then numberF v i
  else if (tkn v i).1 = 2 then namedF v K pp i
  else if (tkn v i).1 = 3 then (tak v 3 i).bind fun s j => .ok (ixN slf (pln s)) j
  else if (tkn v i).1 = 4 then (tak v 4 i).bind fun s j => .ok (.mk 24 s []) j
  else if (tkn v i).1 = 5 then formatF v K pp i
  else if (tkn v i).1 = 7 then textF v K pp nil i
  else signedF v K pp i
def unlessF (pp : Nat) (fin : ByteArray) (i : Nat) : Rs Nd := if isS v i fin = true then .ok non (i + 1) else (K.pipe pp i).bind fun x j => (ned v fin j).bind fun _ k => .ok x k
def innerF (pp : Nat) (of : Nd) (i : Nat) : Rs Nd :=
  if isS v i ⟨#[93]⟩ = true then .ok (.mk 12 nil [of]) (i + 1)
  else if isS v i ⟨#[58]⟩ = true then (K.pipe pp (i + 1)).bind fun x j => (ned v ⟨#[93]⟩ j).bind fun _ k => .ok (.mk 11 nil [of, non, x]) k
  else (K.pipe pp i).bind fun x j => if isS v j ⟨#[58]⟩ = true then (unlessF v K pp ⟨#[93]⟩ (j + 1)).bind fun y k => .ok (.mk 11 nil [of, x, y]) k
    else (ned v ⟨#[93]⟩ j).bind fun _ k => .ok (ixN of x) k
def postL (pp : Nat) : Nat → Nd → Nat → Rs Nd
  | 0, _, _ => .err 0 99
  | f + 1, m, i =>
    if (tkn v i).1 = 3 then postL pp f (ixN m (pln (tkn v i).2.1)) (i + 1)
    else if isS v i ⟨#[63]⟩ = true then postL pp f (.mk 13 nil [m]) (i + 1)
    else if isS v i ⟨#[91]⟩ = true then (innerF v K pp m (i + 1)).bind fun x j => postL pp f x j
    else if isS v i ⟨#[46]⟩ = true ∧ (tkn v (i + 1)).1 = 7 then (textF v K pp nil (i + 1)).bind fun t j => postL pp f (ixN m t) j
    else if isS v i ⟨#[46]⟩ = true ∧ isS v (i + 1) ⟨#[91]⟩ = true then postL pp f m (i + 1)
    else .ok m i
def postF (pp i : Nat) : Rs Nd := (termF v K pp i).bind fun m j => postL v K pp (v.L.length + 1) m j
def boundF (pp i : Nat) : Rs Nd := (postF v K pp i).bind fun s j =>
  if isS v j ⟨#[97, 115]⟩ = true then (K.pat pp (j + 1)).bind fun p k => (ned v ⟨#[124]⟩ k).bind fun _ l => (K.pipe pp l).bind fun b m => .ok (.mk 23 nil [s, p, b]) m else .ok s j
def negF (pp i : Nat) : Rs Nd := if isS v i ⟨#[45]⟩ = true then (K.neg pp (i + 1)).bind fun x j => .ok (.mk 14 nil [x]) j else boundF v K pp i
/-- signs of two sides: sign, strength, ahead, behind -/
def sgs : List (ByteArray × Nat × Nat × Nat) := [(⟨#[44]⟩, 0, 0, 1), (⟨#[47, 47]⟩, 1, 2, 1), (⟨#[61]⟩, 2, 3, 3), (⟨#[124, 61]⟩, 2, 3, 3), (⟨#[43, 61]⟩, 2, 3, 3), (⟨#[45, 61]⟩, 2, 3, 3), (⟨#[42, 61]⟩, 2, 3, 3), (⟨#[47, 61]⟩, 2, 3, 3), (⟨#[37, 61]⟩, 2, 3, 3), (⟨#[47, 47, 61]⟩, 2, 3, 3), (⟨#[111, 114]⟩, 3, 3, 4), (⟨#[97, 110, 100]⟩, 4, 4, 5), (⟨#[61, 61]⟩, 5, 6, 6), (⟨#[33, 61]⟩, 5, 6, 6), (⟨#[60]⟩, 5, 6, 6), (⟨#[60, 61]⟩, 5, 6, 6), (⟨#[62]⟩, 5, 6, 6), (⟨#[62, 61]⟩, 5, 6, 6), (⟨#[43]⟩, 6, 6, 7), (⟨#[45]⟩, 6, 6, 7), (⟨#[42]⟩, 7, 7, 8), (⟨#[47]⟩, 7, 7, 8), (⟨#[37]⟩, 7, 7, 8)]
def twoS (i : Nat) : Option (ByteArray × Nat × Nat × Nat) := sgs.find? fun r => isS v i r.1
def climbL (least pp : Nat) : Nat → Nd → Nat → Nat → Rs Nd
  | 0, _, _, _ => .err 0 99
  | f + 1, m, st, i => match twoS v i with
    | none => .ok m i
    | some r => if r.2.1 < least ∨ st < r.2.2.1 then .ok m i else (K.climb r.2.2.2 pp (i + 1)).bind fun x j => climbL least pp f (heldN r.1 m x) r.2.1 j
def climbF (least pp i : Nat) : Rs Nd := (negF v K pp i).bind fun m j => climbL v K least pp (v.L.length + 1) m 8 j
def paramF (i : Nat) : Rs Nd := if (tkn v i).1 = 4 then (tak v 4 i).bind fun s j => .ok (.mk 27 (⟨#[36]⟩ ++ s) []) j else (tak v 2 i).bind fun s j => .ok (.mk 27 s []) j
/-- a definition behind its name and its params -/
def defR (pp : Nat) (s : ByteArray) (ks : List Nd) (i : Nat) : Rs Nd := (ned v ⟨#[58]⟩ i).bind fun _ j => (K.pipe pp j).bind fun b k => (ned v ⟨#[59]⟩ k).bind fun _ l => (K.pipe pp l).bind fun r m => .ok (.mk 26 s (ks ++ [b, r])) m
def defF (pp i : Nat) : Rs Nd := (tak v 2 i).bind fun s j => if isS v j ⟨#[40]⟩ = true then (rowF v (paramF v) ⟨#[59]⟩ ⟨#[41]⟩ (j + 1)).bind fun ks k => defR v K pp s ks k else defR v K pp s [] j
def anyF (pp i : Nat) : Rs Nd :=
  if isS v i ⟨#[100, 101, 102]⟩ = true then defF v K pp (i + 1)
  else if isS v i ⟨#[108, 97, 98, 101, 108]⟩ = true then (tak v 4 (i + 1)).bind fun s j => (ned v ⟨#[124]⟩ j).bind fun _ k => (K.pipe pp k).bind fun x l => .ok (.mk 21 s [x]) l
  else (climbF v K 0 pp i).bind fun a j => if isS v j ⟨#[124]⟩ = true then (K.pipe pp (j + 1)).bind fun b k => .ok (.mk 15 nil [a, b]) k else .ok a j
def pipeF (pp i : Nat) : Rs Nd := if pp = 600 then .err (plc v i) 6 else anyF v K (pp + 1) i
end
def kn0 : Kn := ⟨fun _ _ => .err 0 99, fun _ _ _ => .err 0 99, fun _ _ => .err 0 99, fun _ _ => .err 0 99, fun _ _ => .err 0 99, fun _ _ => .err 0 99⟩
def kn (v : Ev) : Nat → Kn
  | 0 => kn0
  | f + 1 => ⟨pipeF v (kn v f), climbF v (kn v f), negF v (kn v f), postF v (kn v f), patternF v (kn v f), choiceF v (kn v f)⟩
def allF (v : Ev) : Rs Nd := ((kn v (v.L.length + 1)).pipe 0 0).bind fun t i => if i < v.L.length then unf v i else .ok t i
mutual
def dpt : Nd → Nat
  | .mk _ _ ks => dps ks + 1
def dps : List Nd → Nat
  | [] => 0
  | x :: ks => max (dpt x) (dps ks)
end
mutual
def siz : Nd → Nat
  | .mk _ _ ks => szs ks + 1
def szs : List Nd → Nat
  | [] => 0
  | x :: ks => siz x + szs ks
end
end Go.Proofs.YtpgiljibicigeaaGreatDoor.SX
