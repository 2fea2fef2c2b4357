/- syntax: what the law SyntaxSigns looks at: the trees of 81 texts. -/
import Derived.Test.YtpgiljibicigeaaGreatDoorLexRisesMs
set_option linter.unusedVariables false
set_option linter.unusedSimpArgs false
namespace Go.Proofs.YtpgiljibicigeaaGreatDoor
open Go.RowKit UM QM LX SX

/-- the signs and how strong they are -/
def sg9 : List ByteArray := [⟨#[47, 47]⟩, ⟨#[111, 114]⟩, ⟨#[97, 110, 100]⟩, ⟨#[61, 61]⟩, ⟨#[43]⟩, ⟨#[45]⟩, ⟨#[42]⟩, ⟨#[47]⟩, ⟨#[37]⟩]
def st9 : List Nat := [0, 2, 3, 4, 5, 5, 6, 6, 6]
def sgA (a : Nat) : ByteArray := (sg9[a]?).getD ⟨#[]⟩
def stA (a : Nat) : Nat := (st9[a]?).getD 0
def txS (a b : Nat) : ByteArray := ⟨#[49, 32]⟩ ++ sgA a ++ ⟨#[32, 50, 32]⟩ ++ sgA b ++ ⟨#[32, 51]⟩
def lft (a b : Nat) : Bool := decide (stA b < stA a) || (decide (stA a = stA b) && decide (a ≠ 0))
/-- what the law asks of what is told -/
def chR (R : Rs Nd) (a b : Nat) : Bool :=
  match R with
  | .err _ e => decide (a = 3) && decide (b = 3) && decide (e = 2)
  | .ok (.mk _ t [x, y]) _ => !(decide (a = 3) && decide (b = 3)) && (if lft a b = true then SX.seq t (sgA b) && SX.seq (txN x) (sgA a) && SX.seq (txN y) ⟨#[51]⟩ else SX.seq t (sgA a) && SX.seq (txN y) (sgA b) && SX.seq (txN x) ⟨#[49]⟩)
  | _ => false
theorem ch_all : ((List.range 9).all fun a => (List.range 9).all fun b => chR (parF (txS a b)) a b) = true := by kernel_rfl
theorem ch_at {a b : Nat} (ha : a < 9) (hb : b < 9) : chR (parF (txS a b)) a b = true := by
  have h := List.all_eq_true.1 ch_all a (List.mem_range.2 ha)
  exact List.all_eq_true.1 h b (List.mem_range.2 hb)
end Go.Proofs.YtpgiljibicigeaaGreatDoor
