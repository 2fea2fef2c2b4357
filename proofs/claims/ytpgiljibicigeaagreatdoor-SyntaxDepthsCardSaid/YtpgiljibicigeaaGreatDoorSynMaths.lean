/- syntax: what the parser tells, as functions of the tokens. Nothing of the program. -/
import Derived.Test.YtpgiljibicigeaaGreatDoorDecPa
import Derived.Test.YtpgiljibicigeaaGreatDoorQuoXs
import Derived.Deep.QuietTactic
import Derived.BigQuiet
import Derived.IntWalk
import Derived.LoopNIn
set_option linter.unusedVariables false
set_option linter.unusedSimpArgs false
namespace Go.Proofs.YtpgiljibicigeaaGreatDoor.SX

inductive Nd where | mk (kind : Nat) (text : ByteArray) (kids : List Nd)
inductive Rs (α : Type) where | ok (x : α) (i : Nat) | err (a e : Nat)
def Rs.bind {α β : Type} (r : Rs α) (f : α → Nat → Rs β) : Rs β := match r with | .ok x i => f x i | .err a e => .err a e
abbrev T3 := Nat × ByteArray × Nat
structure Ev where
  L : List T3
  E : Nat
  num : ByteArray → Nat
  wrd : ByteArray → Bool
/-- what holds of what was told, else of the fault -/
def Rs.all {α : Type} (r : Rs α) (P : α → Nat → Prop) (Q : Nat → Nat → Prop) : Prop := match r with | .ok x j => P x j | .err a e => Q a e
theorem all_bind {α β : Type} {r : Rs α} {f : α → Nat → Rs β} {P : α → Nat → Prop} {P' : β → Nat → Prop} {Q : Nat → Nat → Prop} (h : r.all P Q) (hf : ∀ x j, P x j → (f x j).all P' Q) : (r.bind f).all P' Q := by
  cases r with
  | ok x j => exact hf x j h
  | err a e => exact h
theorem all_mono {α : Type} {r : Rs α} {P P' : α → Nat → Prop} {Q : Nat → Nat → Prop} (h : r.all P Q) (hf : ∀ x j, P x j → P' x j) : r.all P' Q := by
  cases r with
  | ok x j => exact hf x j h
  | err a e => exact h
/-- are two texts the same? -/
def seq (a b : ByteArray) : Bool := a.data.toList == b.data.toList
abbrev nil : ByteArray := ⟨#[]⟩

section
variable (v : Ev)
def tkn (i : Nat) : T3 := (v.L[i]?).getD (0, ⟨#[]⟩, 0)
def plc (i : Nat) : Nat := if i = v.L.length then v.E else (tkn v i).2.2
def unf {α : Type} (i : Nat) : Rs α := .err (plc v i) (if i = v.L.length then 5 else 2)
def isT (t : T3) (s : ByteArray) : Bool := (t.1 == 6 || t.1 == 2) && seq t.2.1 s
def isS (i : Nat) (s : ByteArray) : Bool := isT (tkn v i) s
def tak (k i : Nat) : Rs ByteArray := if (tkn v i).1 = k then .ok (tkn v i).2.1 (i + 1) else unf v i
def ned (s : ByteArray) (i : Nat) : Rs Unit := if isS v i s = true then .ok () (i + 1) else unf v i

/-- what the rules ask for that begins further on -/
structure Kn where
  pipe : Nat → Nat → Rs Nd
  climb : Nat → Nat → Nat → Rs Nd
  neg : Nat → Nat → Rs Nd
  post : Nat → Nat → Rs Nd
  pat : Nat → Nat → Rs Nd
  choice : Nat → Nat → Rs Nd

def slf : Nd := .mk 1 nil []
def non : Nd := .mk 32 nil []
def pln (s : ByteArray) : Nd := .mk 4 nil [.mk 5 s []]
def ixN (a b : Nd) : Nd := .mk 10 nil [a, b]
def heldN (s : ByteArray) (a b : Nd) : Nd := if seq s ⟨#[44]⟩ = true then .mk 16 nil [a, b] else .mk 17 s [a, b]

/-- items with a sign between, up to one that ends them -/
def rowL (item : Nat → Rs Nd) (btw fin : ByteArray) : Nat → List Nd → Nat → Rs (List Nd)
  | 0, _, _ => .err 0 99
  | f + 1, acc, i => if isS v i fin = true then .ok acc (i + 1) else (ned v btw i).bind fun _ j => (item j).bind fun x k => rowL item btw fin f (acc ++ [x]) k
def rowF (item : Nat → Rs Nd) (btw fin : ByteArray) (i : Nat) : Rs (List Nd) := (item i).bind fun x j => rowL v item btw fin (v.L.length + 1) [x] j

variable (K : Kn)
def textL (pp : Nat) : Nat → List Nd → Nat → Rs (List Nd)
  | 0, _, _ => .err 0 99
  | f + 1, acc, i =>
    if (tkn v i).1 = 8 then textL pp f (acc ++ [.mk 5 (tkn v i).2.1 []]) (i + 1)
    else if (tkn v i).1 = 9 then (K.pipe pp (i + 1)).bind fun x j => (tak v 10 j).bind fun _ k => textL pp f (acc ++ [x]) k
    else (tak v 11 i).bind fun _ j => .ok acc j
def textF (pp : Nat) (fmt : ByteArray) (i : Nat) : Rs Nd := (tak v 7 i).bind fun _ j => (textL v K pp (v.L.length + 1) [] j).bind fun ks k => .ok (.mk 4 fmt ks) k
def numberF (i : Nat) : Rs Nd := if v.num (tkn v i).2.1 = 0 then (tak v 1 i).bind fun s j => .ok (.mk 3 s []) j else .err (plc v i) (v.num (tkn v i).2.1)
def formatF (pp i : Nat) : Rs Nd := (tak v 5 i).bind fun s j => if (tkn v j).1 = 7 then textF v K pp s j else .ok (.mk 6 s []) j
def ownF (i : Nat) : Rs ByteArray := if v.wrd (tkn v i).2.1 = true then unf v i else tak v 2 i
def litKeyF (i : Nat) : Rs ByteArray :=
  if (tkn v i).1 = 7 then (tak v 7 i).bind fun _ j => if (tkn v j).1 = 8 then (tak v 8 j).bind fun s k => (tak v 11 k).bind fun _ l => .ok s l else (tak v 11 j).bind fun _ l => .ok nil l
  else tak v 2 i
def patKeyF (pp i : Nat) : Rs Nd :=
  if (tkn v i).1 = 4 then (tak v 4 i).bind fun s j => .ok (.mk 31 s [.mk 28 s []]) j
  else (litKeyF v i).bind fun s j => (ned v ⟨#[58]⟩ j).bind fun _ k => (K.pat pp k).bind fun p l => .ok (.mk 31 s [p]) l
def patternF (pp i : Nat) : Rs Nd :=
  if isS v i ⟨#[91]⟩ = true then (rowF v (K.pat pp) ⟨#[44]⟩ ⟨#[93]⟩ (i + 1)).bind fun ks j => .ok (.mk 29 nil ks) j
  else if isS v i ⟨#[123]⟩ = true then (rowF v (patKeyF v K pp) ⟨#[44]⟩ ⟨#[125]⟩ (i + 1)).bind fun ks j => .ok (.mk 30 nil ks) j
  else (tak v 4 i).bind fun s j => .ok (.mk 28 s []) j
def keyF (pp i : Nat) : Rs Nd := if (tkn v i).1 = 7 then textF v K pp nil i else (tak v 2 i).bind fun s j => .ok (pln s) j
def entryF (pp i : Nat) : Rs Nd :=
  if (tkn v i).1 = 4 then (tak v 4 i).bind fun s j => .ok (.mk 9 nil [pln s, .mk 24 s []]) j
  else if isS v i ⟨#[40]⟩ = true then (K.pipe pp (i + 1)).bind fun key j => (ned v ⟨#[41]⟩ j).bind fun _ k => (ned v ⟨#[58]⟩ k).bind fun _ l => (K.climb 1 pp l).bind fun x m => .ok (.mk 9 nil [key, x]) m
  else (keyF v K pp i).bind fun key j => if isS v j ⟨#[58]⟩ = true then (K.climb 1 pp (j + 1)).bind fun x m => .ok (.mk 9 nil [key, x]) m else .ok (.mk 9 nil [key, ixN slf key]) j
def signedF (pp i : Nat) : Rs Nd :=
  if isS v i ⟨#[46]⟩ = true then (if (tkn v (i + 1)).1 = 7 then (textF v K pp nil (i + 1)).bind fun t j => .ok (ixN slf t) j else .ok slf (i + 1))
  else if isS v i ⟨#[46, 46]⟩ = true then .ok (.mk 2 nil []) (i + 1)
  else if isS v i ⟨#[40]⟩ = true then (K.pipe pp (i + 1)).bind fun x j => (ned v ⟨#[41]⟩ j).bind fun _ k => .ok x k
  else if isS v i ⟨#[91]⟩ = true then (if isS v (i + 1) ⟨#[93]⟩ = true then .ok (.mk 7 nil []) (i + 2) else (K.pipe pp (i + 1)).bind fun x j => (ned v ⟨#[93]⟩ j).bind fun _ k => .ok (.mk 7 nil [x]) k)
  else if isS v i ⟨#[123]⟩ = true then (if isS v (i + 1) ⟨#[125]⟩ = true then .ok (.mk 8 nil []) (i + 2) else (rowF v (entryF v K pp) ⟨#[44]⟩ ⟨#[125]⟩ (i + 1)).bind fun ks j => .ok (.mk 8 nil ks) j)
  else unf v i
def callF (pp i : Nat) : Rs Nd := (ownF v i).bind fun s j => if isS v j ⟨#[40]⟩ = true then (rowF v (K.pipe pp) ⟨#[59]⟩ ⟨#[41]⟩ (j + 1)).bind fun ks k => .ok (.mk 25 s ks) k else .ok (.mk 25 s []) j
/-- behind what is chosen -/
def otherF (pp i : Nat) : Rs Nd :=
  if isS v i ⟨#[101, 108, 105, 102]⟩ = true then K.choice pp (i + 1)
  else if isS v i ⟨#[101, 108, 115, 101]⟩ = true then (K.pipe pp (i + 1)).bind fun x j => (ned v ⟨#[101, 110, 100]⟩ j).bind fun _ k => .ok x k
  else (ned v ⟨#[101, 110, 100]⟩ i).bind fun _ j => .ok non j
def choiceF (pp i : Nat) : Rs Nd := (K.pipe pp i).bind fun c j => (ned v ⟨#[116, 104, 101, 110]⟩ j).bind fun _ k => (K.pipe pp k).bind fun t l => (otherF v K pp l).bind fun o m => .ok (.mk 18 nil [c, t, o]) m
def attemptF (pp i : Nat) : Rs Nd := (K.post pp i).bind fun x j => if isS v j ⟨#[99, 97, 116, 99, 104]⟩ = true then (K.post pp (j + 1)).bind fun y k => .ok (.mk 13 nil [x, y]) k else .ok (.mk 13 nil [x]) j
def sourceF (pp i : Nat) : Rs (Nd × Nd × Nd) := (K.post pp i).bind fun x j => (ned v ⟨#[97, 115]⟩ j).bind fun _ k => (K.pat pp k).bind fun p l => (ned v ⟨#[40]⟩ l).bind fun _ m => (K.pipe pp m).bind fun s n => (ned v ⟨#[59]⟩ n).bind fun _ o => .ok (x, p, s) o
def reduceF (pp i : Nat) : Rs Nd := (sourceF v K pp i).bind fun q j => (K.pipe pp j).bind fun s k => (ned v ⟨#[41]⟩ k).bind fun _ l => .ok (.mk 19 nil [q.1, q.2.1, q.2.2, s]) l
def foreachF (pp i : Nat) : Rs Nd := (sourceF v K pp i).bind fun q j => (K.pipe pp j).bind fun s k =>
  if isS v k ⟨#[59]⟩ = true then (K.pipe pp (k + 1)).bind fun t l => (ned v ⟨#[41]⟩ l).bind fun _ m => .ok (.mk 20 nil [q.1, q.2.1, q.2.2, s, t]) m
  else (ned v ⟨#[41]⟩ k).bind fun _ m => .ok (.mk 20 nil [q.1, q.2.1, q.2.2, s, non]) m
def namedF (pp i : Nat) : Rs Nd :=
  if isS v i ⟨#[105, 102]⟩ = true then choiceF v K pp (i + 1)
  else if isS v i ⟨#[116, 114, 121]⟩ = true then attemptF v K pp (i + 1)
  else if isS v i ⟨#[114, 101, 100, 117, 99, 101]⟩ = true then reduceF v K pp (i + 1)
  else if isS v i ⟨#[102, 111, 114, 101, 97, 99, 104]⟩ = true then foreachF v K pp (i + 1)
  else if isS v i ⟨#[98, 114, 101, 97, 107]⟩ = true then (tak v 4 (i + 1)).bind fun s j => .ok (.mk 22 s []) j
  else callF v K pp i
def termF (pp i : Nat) : Rs Nd :=
  if (tkn v i).1 = 1 then numberF v i
  else if (tkn v i).1 = 2 then namedF v K pp i
  else if (tkn v i).1 = 3 then (tak v 3 i).bind fun s j => .ok (ixN slf (pln s)) j
  else if (tkn v i).1 = 4 then (tak v 4 i).bind fun s j => .ok (.mk 24 s []) j
  else if (tkn v i).1 = 5 then formatF v K pp i
  else if (tkn v i).1 = 7 then textF v K pp nil i
  else signedF v K pp i
def unlessF (pp : Nat) (fin : ByteArray) (i : Nat) : Rs Nd := if isS v i fin = true then .ok non (i + 1) else (K.pipe pp i).bind fun x j => (ned v fin j).bind fun _ k => .ok x k
def innerF (pp : Nat) (of : Nd) (i : Nat) : Rs Nd :=
  if isS v i ⟨#[93]⟩ = true then .ok (.mk 12 nil [of]) (i + 1)
  else if isS v i ⟨#[58]⟩ = true then (K.pipe pp (i + 1)).bind fun x j => (ned v ⟨#[93]⟩ j).bind fun _ k => .ok (.mk 11 nil [of, non, x]) k
  else (K.pipe pp i).bind fun x j => if isS v j ⟨#[58]⟩ = true then (unlessF v K pp ⟨#[93]⟩ (j + 1)).bind fun y k => .ok (.mk 11 nil [of, x, y]) k
    else (ned v ⟨#[93]⟩ j).bind fun _ k => .ok (ixN of x) k
def postL (pp : Nat) : Nat → Nd → Nat → Rs Nd
  | 0, _, _ => .err 0 99
  | f + 1, m, i =>
    if (tkn v i).1 = 3 then postL pp f (ixN m (pln (tkn v i).2.1)) (i + 1)
    else if isS v i ⟨#[63]⟩ = true then postL pp f (.mk 13 nil [m]) (i + 1)
    else if isS v i ⟨#[91]⟩ = true then (innerF v K pp m (i + 1)).bind fun x j => postL pp f x j
    else if isS v i ⟨#[46]⟩ = true ∧ (tkn v (i + 1)).1 = 7 then (textF v K pp nil (i + 1)).bind fun t j => postL pp f (ixN m t) j
    else if isS v i ⟨#[46]⟩ = true ∧ isS v (i + 1) ⟨#[91]⟩ = true then postL pp f m (i + 1)
    else .ok m i
def postF (pp i : Nat) : Rs Nd := (termF v K pp i).bind fun m j => postL v K pp (v.L.length + 1) m j
def boundF (pp i : Nat) : Rs Nd := (postF v K pp i).bind fun s j =>
  if isS v j ⟨#[97, 115]⟩ = true then (K.pat pp (j + 1)).bind fun p k => (ned v ⟨#[124]⟩ k).bind fun _ l => (K.pipe pp l).bind fun b m => .ok (.mk 23 nil [s, p, b]) m else .ok s j
def negF (pp i : Nat) : Rs Nd := if isS v i ⟨#[45]⟩ = true then (K.neg pp (i + 1)).bind fun x j => .ok (.mk 14 nil [x]) j else boundF v K pp i
/-- signs of two sides: sign, strength, ahead, behind -/
def sgs : List (ByteArray × Nat × Nat × Nat) := [(⟨#[44]⟩, 0, 0, 1), (⟨#[47, 47]⟩, 1, 2, 1), (⟨#[61]⟩, 2, 3, 3), (⟨#[124, 61]⟩, 2, 3, 3), (⟨#[43, 61]⟩, 2, 3, 3), (⟨#[45, 61]⟩, 2, 3, 3), (⟨#[42, 61]⟩, 2, 3, 3), (⟨#[47, 61]⟩, 2, 3, 3), (⟨#[37, 61]⟩, 2, 3, 3), (⟨#[47, 47, 61]⟩, 2, 3, 3), (⟨#[111, 114]⟩, 3, 3, 4), (⟨#[97, 110, 100]⟩, 4, 4, 5), (⟨#[61, 61]⟩, 5, 6, 6), (⟨#[33, 61]⟩, 5, 6, 6), (⟨#[60]⟩, 5, 6, 6), (⟨#[60, 61]⟩, 5, 6, 6), (⟨#[62]⟩, 5, 6, 6), (⟨#[62, 61]⟩, 5, 6, 6), (⟨#[43]⟩, 6, 6, 7), (⟨#[45]⟩, 6, 6, 7), (⟨#[42]⟩, 7, 7, 8), (⟨#[47]⟩, 7, 7, 8), (⟨#[37]⟩, 7, 7, 8)]
def twoS (i : Nat) : Option (ByteArray × Nat × Nat × Nat) := sgs.find? fun r => isS v i r.1
def climbL (least pp : Nat) : Nat → Nd → Nat → Nat → Rs Nd
  | 0, _, _, _ => .err 0 99
  | f + 1, m, st, i => match twoS v i with
    | none => .ok m i
    | some r => if r.2.1 < least ∨ st < r.2.2.1 then .ok m i else (K.climb r.2.2.2 pp (i + 1)).bind fun x j => climbL least pp f (heldN r.1 m x) r.2.1 j
def climbF (least pp i : Nat) : Rs Nd := (negF v K pp i).bind fun m j => climbL v K least pp (v.L.length + 1) m 8 j
def paramF (i : Nat) : Rs Nd := if (tkn v i).1 = 4 then (tak v 4 i).bind fun s j => .ok (.mk 27 (⟨#[36]⟩ ++ s) []) j else (tak v 2 i).bind fun s j => .ok (.mk 27 s []) j
/-- a definition behind its name and its params -/
def defR (pp : Nat) (s : ByteArray) (ks : List Nd) (i : Nat) : Rs Nd := (ned v ⟨#[58]⟩ i).bind fun _ j => (K.pipe pp j).bind fun b k => (ned v ⟨#[59]⟩ k).bind fun _ l => (K.pipe pp l).bind fun r m => .ok (.mk 26 s (ks ++ [b, r])) m
def defF (pp i : Nat) : Rs Nd := (tak v 2 i).bind fun s j => if isS v j ⟨#[40]⟩ = true then (rowF v (paramF v) ⟨#[59]⟩ ⟨#[41]⟩ (j + 1)).bind fun ks k => defR v K pp s ks k else defR v K pp s [] j
def anyF (pp i : Nat) : Rs Nd :=
  if isS v i ⟨#[100, 101, 102]⟩ = true then defF v K pp (i + 1)
  else if isS v i ⟨#[108, 97, 98, 101, 108]⟩ = true then (tak v 4 (i + 1)).bind fun s j => (ned v ⟨#[124]⟩ j).bind fun _ k => (K.pipe pp k).bind fun x l => .ok (.mk 21 s [x]) l
  else (climbF v K 0 pp i).bind fun a j => if isS v j ⟨#[124]⟩ = true then (K.pipe pp (j + 1)).bind fun b k => .ok (.mk 15 nil [a, b]) k else .ok a j
def pipeF (pp i : Nat) : Rs Nd := if pp = 600 then .err (plc v i) 6 else anyF v K (pp + 1) i
end
def kn0 : Kn := ⟨fun _ _ => .err 0 99, fun _ _ _ => .err 0 99, fun _ _ => .err 0 99, fun _ _ => .err 0 99, fun _ _ => .err 0 99, fun _ _ => .err 0 99⟩
def kn (v : Ev) : Nat → Kn
  | 0 => kn0
  | f + 1 => ⟨pipeF v (kn v f), climbF v (kn v f), negF v (kn v f), postF v (kn v f), patternF v (kn v f), choiceF v (kn v f)⟩
def allF (v : Ev) : Rs Nd := ((kn v (v.L.length + 1)).pipe 0 0).bind fun t i => if i < v.L.length then unf v i else .ok t i
mutual
def dpt : Nd → Nat
  | .mk _ _ ks => dps ks + 1
def dps : List Nd → Nat
  | [] => 0
  | x :: ks => max (dpt x) (dps ks)
end
mutual
def siz : Nd → Nat
  | .mk _ _ ks => szs ks + 1
def szs : List Nd → Nat
  | [] => 0
  | x :: ks => siz x + szs ks
end
def knd : Nd → Nat
  | .mk k _ _ => k
def txN : Nd → ByteArray
  | .mk _ s _ => s
end Go.Proofs.YtpgiljibicigeaaGreatDoor.SX

/- lex: letters, digits, names, numbers walked. -/
namespace Go.Proofs.YtpgiljibicigeaaGreatDoor
open Go.RowKit UM QM LX

def isLtI (c : Int) : Bool := (decide (97 ≤ c) && decide (c ≤ 122)) || (decide (65 ≤ c) && decide (c ≤ 90)) || c == 95
def isDgI (c : Int) : Bool := decide (48 ≤ c) && decide (c ≤ 57)
theorem isLtI_nat (c : Nat) : isLtI (c : Int) = isLt c := by
  unfold isLtI isLt
  rw [Bool.eq_iff_iff]
  simp only [Bool.or_eq_true, Bool.and_eq_true, decide_eq_true_eq, beq_iff_eq]
  omega
theorem isDgI_nat (c : Nat) : isDgI (c : Int) = isDg c := by
  unfold isDgI isDg
  rw [Bool.eq_iff_iff]
  simp only [Bool.and_eq_true, decide_eq_true_eq]
  omega
set_option maxHeartbeats 1000000 in
theorem lIsLetterI (c : Int) (w : World) : Calls Tryz.prog 53 #[.int .u8 c] w fun e w' => e = .returned (.bool (isLtI c)) ∧ w = w' := by
  unfold isLtI
  go_enter Tryz.func53, Tryz.ntmps53
  by_cases h1 : 97 ≤ c
  · rw [decide_eq_true h1]
    by_cases h2 : c ≤ 122
    · rw [decide_eq_true h2]
      go_wp2; go_ret; exact ⟨rfl, rfl⟩
    · rw [decide_eq_false h2]
      have h3 : 65 ≤ c := by omega
      have h4 : ¬ c ≤ 90 := by omega
      rw [decide_eq_true h3, decide_eq_false h4]
      go_wp2; go_ret; exact ⟨by simp, rfl⟩
  · rw [decide_eq_false h1]
    by_cases h3 : 65 ≤ c
    · rw [decide_eq_true h3]
      by_cases h4 : c ≤ 90
      · rw [decide_eq_true h4]
        go_wp2; go_ret; exact ⟨rfl, rfl⟩
      · rw [decide_eq_false h4]
        go_wp2; go_ret; exact ⟨by simp, rfl⟩
    · rw [decide_eq_false h3]
      go_wp2; go_ret; exact ⟨by simp, rfl⟩
set_option maxHeartbeats 1000000 in
theorem lIsDigitI (c : Int) (w : World) : Calls Tryz.prog 55 #[.int .u8 c] w fun e w' => e = .returned (.bool (isDgI c)) ∧ w = w' := by
  unfold isDgI
  go_enter Tryz.func55, Tryz.ntmps55
  by_cases h1 : 48 ≤ c
  · rw [decide_eq_true h1]
    by_cases h2 : c ≤ 57
    · rw [decide_eq_true h2]
      go_wp2; go_ret; exact ⟨rfl, rfl⟩
    · rw [decide_eq_false h2]
      go_wp2; go_ret; exact ⟨by simp, rfl⟩
  · rw [decide_eq_false h1]
    go_wp2; go_ret; exact ⟨rfl, rfl⟩
theorem lIsLetter_any (c : Nat) (w : World) : Calls Tryz.prog 53 #[.int .u8 (c : Int)] w fun e w' => e = .returned (.bool (isLt c)) ∧ w = w' := by rw [← isLtI_nat]; exact lIsLetterI c w
theorem lIsDigit_any (c : Nat) (w : World) : Calls Tryz.prog 55 #[.int .u8 (c : Int)] w fun e w' => e = .returned (.bool (isDg c)) ∧ w = w' := by rw [← isDgI_nat]; exact lIsDigitI c w
theorem bdrop_end {s : ByteArray} {j : Nat} (h : s.size ≤ j) : (bl s).drop j = [] := List.drop_of_length_le (by rw [bl_len]; exact h)
theorem runL_yes {p : Nat → Bool} {s : ByteArray} {j : Nat} (h : j < s.size) (hp : p s[j].toNat = true) : j + 1 + runL p ((bl s).drop (j + 1)) = j + runL p ((bl s).drop j) := by
  rw [bl_drop s j h]; simp only [runL]; rw [if_pos hp]; omega
theorem runL_no {p : Nat → Bool} {s : ByteArray} {j : Nat} (h : j < s.size) (hp : p s[j].toNat = false) : j + runL p ((bl s).drop j) = j := by
  rw [bl_drop s j h]; simp only [runL]; rw [if_neg (by simp [hp])]; rfl
theorem runL_end {p : Nat → Bool} {s : ByteArray} {j : Nat} (h : s.size ≤ j) : j + runL p ((bl s).drop j) = j := by
  rw [bdrop_end h]; rfl
set_option maxRecDepth 100000 in
set_option maxHeartbeats 2000000 in
theorem digitsEnd_any (s : ByteArray) (k : Nat) (w : World) (hs : s.size ≤ 140737488351232) (hk : k ≤ s.size) :
    Calls Tryz.prog 74 #[.string s, .int .i64 (k : Int)] w fun e w' => e = .returned (.int .i64 ((k + dgR ((bl s).drop k) : Nat) : Int)) ∧ w = w' := by
  unfold dgR
  go_enter Tryz.func74, Tryz.ntmps74
  go_wp2_with fail
  go_loopw [1] (fun s1 wr => ∃ j : Nat, j ≤ s.size ∧ s1 = .int .i64 j ∧ Hid (j + runL isDg ((bl s).drop j) = k + runL isDg ((bl s).drop k)) ∧ w = wr) (fun s1 _ => s.size - (intOf s1).toNat)
  case atStart => exact ⟨k, hk, rfl, Lib.hid rfl, rfl⟩
  case round =>
    obtain ⟨j, hj, rfl, HJ, rfl⟩ := hrel
    by_cases hlt : j < s.size
    · have e1 := hlt
      have HI := Lib.hid (fun w => lIsDigit_any s[j].toNat w)
      by_cases hb : isDg s[j].toNat = true
      · rw [hb] at HI
        have HN := Lib.hid ((runL_yes (p := isDg) hlt hb).trans HJ.out)
        clear hb HJ
        go_wp2_with (refine (HI.out _).mono ?_; rintro e w1 ⟨rfl, rfl⟩)
        go_roundw
        case rel => exact ⟨j + 1, by omega, by go_num, HN, by first | rfl | trivial⟩
        case measure => simp [intOf]; omega
      · have hb' : isDg s[j].toNat = false := by simpa using hb
        rw [hb'] at HI
        have HN := Lib.hid ((runL_no (p := isDg) hlt hb').symm.trans HJ.out)
        clear hb hb' HJ
        go_wp2_with fail
        refine (HI.out _).mono ?_
        rintro e w1 ⟨rfl, rfl⟩
        go_wp2
        go_ret
        exact ⟨by rw [← HN.out]; rfl, rfl⟩
    · have HN := Lib.hid ((runL_end (p := isDg) (s := s) (j := j) (by omega)).symm.trans HJ.out)
      clear HJ
      go_wp2
      go_ret
      exact ⟨by rw [← HN.out]; rfl, rfl⟩
end Go.Proofs.YtpgiljibicigeaaGreatDoor
