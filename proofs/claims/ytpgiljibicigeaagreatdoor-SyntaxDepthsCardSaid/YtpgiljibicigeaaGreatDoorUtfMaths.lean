/- Plain mathematics of code points and their bytes: a code point's bytes, what bytes begin with, a text's code points, order. Nothing of the program. -/
import Derived.WalkKit
set_option linter.unusedVariables false
set_option linter.unusedSimpArgs false
namespace Go.Proofs.YtpgiljibicigeaaGreatDoor.UM

/-- a code point -/
def Pt (p : Nat) : Prop := p ≤ 1114111 ∧ (p < 55296 ∨ 57343 < p)
instance (p : Nat) : Decidable (Pt p) := by unfold Pt; infer_instance
/-- its bytes -/
def enc (p : Nat) : List Nat :=
  if p < 128 then [p] else if p < 2048 then [192 + p / 64, 128 + p % 64]
  else if p < 65536 then [224 + p / 4096, 128 + p / 64 % 64, 128 + p % 64]
  else [240 + p / 262144, 128 + p / 4096 % 64, 128 + p / 64 % 64, 128 + p % 64]
def en (p : Nat) : Nat := if p < 128 then 1 else if p < 2048 then 2 else if p < 65536 then 3 else 4
theorem enc_len (p : Nat) : (enc p).length = en p := by unfold enc en; repeat' split
                                                        all_goals rfl
theorem en_pos (p : Nat) : 1 ≤ en p ∧ en p ≤ 4 := by unfold en; repeat' split
                                                     all_goals omega
theorem enc1 {p : Nat} (h : p < 128) : enc p = [p] := by unfold enc; rw [if_pos h]
theorem enc2 {p : Nat} (h : ¬ p < 128) (h2 : p < 2048) : enc p = [192 + p / 64, 128 + p % 64] := by unfold enc; rw [if_neg h, if_pos h2]
theorem enc3 {p : Nat} (h : ¬ p < 2048) (h2 : p < 65536) : enc p = [224 + p / 4096, 128 + p / 64 % 64, 128 + p % 64] := by unfold enc; rw [if_neg (by omega), if_neg h, if_pos h2]
theorem enc4 {p : Nat} (h : ¬ p < 65536) : enc p = [240 + p / 262144, 128 + p / 4096 % 64, 128 + p / 64 % 64, 128 + p % 64] := by unfold enc; rw [if_neg (by omega), if_neg (by omega), if_neg h]
theorem enc_lo {p : Nat} (h : p ≤ 1114111) : ∀ x ∈ enc p, x < 256 := by
  intro x hx
  unfold enc at hx
  repeat' split at hx
  all_goals simp only [List.mem_cons, List.not_mem_nil, or_false] at hx
  all_goals omega

def bad : Nat × Nat × Bool := (65533, 1, false)
/-- what bytes begin with: the code point, its bytes' number, whether there is one -/
def dcd : List Nat → Nat × Nat × Bool
  | [] => (65533, 0, false)
  | a :: t =>
    if a < 128 then (a, 1, true)
    else if a / 32 = 6 then
      match t with
      | b :: _ => if b / 64 = 2 ∧ 128 ≤ a % 32 * 64 + b % 64 then (a % 32 * 64 + b % 64, 2, true) else bad
      | _ => bad
    else if a / 16 = 14 then
      match t with
      | b :: c :: _ => if b / 64 = 2 ∧ c / 64 = 2 ∧ 2048 ≤ a % 16 * 4096 + b % 64 * 64 + c % 64 ∧ Pt (a % 16 * 4096 + b % 64 * 64 + c % 64) then (a % 16 * 4096 + b % 64 * 64 + c % 64, 3, true) else bad
      | _ => bad
    else if a / 8 = 30 then
      match t with
      | b :: c :: d :: _ => if b / 64 = 2 ∧ c / 64 = 2 ∧ d / 64 = 2 ∧ 65536 ≤ a % 8 * 262144 + b % 64 * 4096 + c % 64 * 64 + d % 64 ∧ Pt (a % 8 * 262144 + b % 64 * 4096 + c % 64 * 64 + d % 64) then (a % 8 * 262144 + b % 64 * 4096 + c % 64 * 64 + d % 64, 4, true) else bad
      | _ => bad
    else bad

theorem dcd_enc {p : Nat} (hp : Pt p) (t : List Nat) : dcd (enc p ++ t) = (p, en p, true) := by
  have hp' := hp
  obtain ⟨h1, h2⟩ := hp'
  unfold en
  by_cases c1 : p < 128
  · rw [enc1 c1, if_pos c1]; simp only [List.cons_append, List.nil_append, dcd]; rw [if_pos c1]
  by_cases c2 : p < 2048
  · rw [enc2 c1 c2, if_neg c1, if_pos c2]; simp only [List.cons_append, List.nil_append, dcd]
    have e1 : (192 + p / 64) % 32 * 64 + (128 + p % 64) % 64 = p := by omega
    rw [if_neg (by omega), if_pos (by omega), e1, if_pos (by omega)]
  by_cases c3 : p < 65536
  · rw [enc3 c2 c3, if_neg c1, if_neg c2, if_pos c3]; simp only [List.cons_append, List.nil_append, dcd]
    have e1 : (224 + p / 4096) % 16 * 4096 + (128 + p / 64 % 64) % 64 * 64 + (128 + p % 64) % 64 = p := by omega
    rw [if_neg (by omega), if_neg (by omega), if_pos (by omega), e1, if_pos ⟨by omega, by omega, by omega, hp⟩]
  · rw [enc4 c3, if_neg c1, if_neg c2, if_neg c3]; simp only [List.cons_append, List.nil_append, dcd]
    have e1 : (240 + p / 262144) % 8 * 262144 + (128 + p / 4096 % 64) % 64 * 4096 + (128 + p / 64 % 64) % 64 * 64 + (128 + p % 64) % 64 = p := by omega
    rw [if_neg (by omega), if_neg (by omega), if_neg (by omega), if_pos (by omega), e1, if_pos ⟨by omega, by omega, by omega, by omega, hp⟩]

/-- either they begin with a code point, or not -/
theorem dcd_cases (l : List Nat) : (∃ p t, Pt p ∧ l = enc p ++ t ∧ dcd l = (p, en p, true)) ∨ (l = [] ∧ dcd l = (65533, 0, false)) ∨ (l ≠ [] ∧ dcd l = (65533, 1, false)) := by
  have key : ∀ p t, Pt p → l = enc p ++ t → ∃ p t, Pt p ∧ l = enc p ++ t ∧ dcd l = (p, en p, true) := fun p t hp e => ⟨p, t, hp, e, by rw [e]; exact dcd_enc hp t⟩
  rcases l with _ | ⟨a, t⟩
  · exact .inr (.inl ⟨rfl, rfl⟩)
  by_cases c1 : a < 128
  · exact .inl (key a t ⟨by omega, by omega⟩ (by rw [enc1 c1]; rfl))
  by_cases c2 : a / 32 = 6
  · rcases t with _ | ⟨b, t⟩
    · refine .inr (.inr ⟨by simp, ?_⟩); simp only [dcd]; rw [if_neg c1, if_pos c2]; rfl
    by_cases g : b / 64 = 2 ∧ 128 ≤ a % 32 * 64 + b % 64
    · exact .inl (key (a % 32 * 64 + b % 64) t ⟨by omega, by omega⟩ (by rw [enc2 (by omega) (by omega)]; simp only [List.cons_append, List.nil_append, List.cons.injEq, and_true]; omega))
    · refine .inr (.inr ⟨by simp, ?_⟩); simp only [dcd]; rw [if_neg c1, if_pos c2, if_neg g]; rfl
  by_cases c3 : a / 16 = 14
  · rcases t with _ | ⟨b, _ | ⟨c, t⟩⟩
    · refine .inr (.inr ⟨by simp, ?_⟩); simp only [dcd]; rw [if_neg c1, if_neg c2, if_pos c3]; rfl
    · refine .inr (.inr ⟨by simp, ?_⟩); simp only [dcd]; rw [if_neg c1, if_neg c2, if_pos c3]; rfl
    by_cases g : b / 64 = 2 ∧ c / 64 = 2 ∧ 2048 ≤ a % 16 * 4096 + b % 64 * 64 + c % 64 ∧ Pt (a % 16 * 4096 + b % 64 * 64 + c % 64)
    · exact .inl (key (a % 16 * 4096 + b % 64 * 64 + c % 64) t g.2.2.2 (by rw [enc3 (by omega) (by omega)]; simp only [List.cons_append, List.nil_append, List.cons.injEq, and_true]; omega))
    · refine .inr (.inr ⟨by simp, ?_⟩); simp only [dcd]; rw [if_neg c1, if_neg c2, if_pos c3, if_neg g]; rfl
  by_cases c4 : a / 8 = 30
  · rcases t with _ | ⟨b, _ | ⟨c, _ | ⟨d, t⟩⟩⟩
    · refine .inr (.inr ⟨by simp, ?_⟩); simp only [dcd]; rw [if_neg c1, if_neg c2, if_neg c3, if_pos c4]; rfl
    · refine .inr (.inr ⟨by simp, ?_⟩); simp only [dcd]; rw [if_neg c1, if_neg c2, if_neg c3, if_pos c4]; rfl
    · refine .inr (.inr ⟨by simp, ?_⟩); simp only [dcd]; rw [if_neg c1, if_neg c2, if_neg c3, if_pos c4]; rfl
    by_cases g : b / 64 = 2 ∧ c / 64 = 2 ∧ d / 64 = 2 ∧ 65536 ≤ a % 8 * 262144 + b % 64 * 4096 + c % 64 * 64 + d % 64 ∧ Pt (a % 8 * 262144 + b % 64 * 4096 + c % 64 * 64 + d % 64)
    · exact .inl (key (a % 8 * 262144 + b % 64 * 4096 + c % 64 * 64 + d % 64) t g.2.2.2.2 (by rw [enc4 (by omega)]; simp only [List.cons_append, List.nil_append, List.cons.injEq, and_true]; omega))
    · refine .inr (.inr ⟨by simp, ?_⟩); simp only [dcd]; rw [if_neg c1, if_neg c2, if_neg c3, if_pos c4, if_neg g]; rfl
  · refine .inr (.inr ⟨by simp, ?_⟩); simp only [dcd]; rw [if_neg c1, if_neg c2, if_neg c3, if_neg c4]; rfl

theorem pt_bad : Pt 65533 := by decide
theorem dcd_pt (l : List Nat) : Pt (dcd l).1 := by
  rcases dcd_cases l with ⟨p, t, hp, _, e⟩ | ⟨_, e⟩ | ⟨_, e⟩ <;> rw [e]
  · exact hp
  · exact pt_bad
  · exact pt_bad
theorem dcd_wd {l : List Nat} (h : l ≠ []) : 1 ≤ (dcd l).2.1 ∧ (dcd l).2.1 ≤ l.length := by
  rcases dcd_cases l with ⟨p, t, hp, e0, e⟩ | ⟨e0, e⟩ | ⟨_, e⟩ <;> rw [e]
  · have := enc_len p
    have h1 := en_pos p
    rw [e0]; simp only [List.length_append]; omega
  · exact absurd e0 h
  · have : 0 < l.length := List.length_pos_iff.2 h
    simp only; omega

/-- a text's code points -/
def xpF : Nat → List Nat → List Nat
  | 0, _ => []
  | n + 1, l => if l = [] then [] else (dcd l).1 :: xpF n (l.drop (dcd l).2.1)
def xp (l : List Nat) : List Nat := xpF l.length l
theorem xpF_more : ∀ (n m : Nat) (l : List Nat), l.length ≤ n → l.length ≤ m → xpF n l = xpF m l
  | 0, m, l, h, _ => by
    obtain rfl : l = [] := List.length_eq_zero_iff.1 (by omega)
    cases m <;> rfl
  | n + 1, 0, l, _, h => by
    obtain rfl : l = [] := List.length_eq_zero_iff.1 (by omega)
    rfl
  | n + 1, m + 1, l, h1, h2 => by
    by_cases h : l = []
    · subst h; rfl
    · have hw := dcd_wd h
      rw [xpF, xpF, if_neg h, if_neg h, xpF_more n m _ (by simp only [List.length_drop]; omega) (by simp only [List.length_drop]; omega)]
theorem xp_cons {l : List Nat} (h : l ≠ []) : xp l = (dcd l).1 :: xp (l.drop (dcd l).2.1) := by
  have hw := dcd_wd h
  have h1 : xp l = xpF (l.length + 1) l := xpF_more _ _ _ (by omega) (by omega)
  rw [h1, xpF, if_neg h]
  congr 1
  exact xpF_more _ _ _ (by simp only [List.length_drop]; omega) (by omega)
/-- the bytes of code points -/
def encL (ps : List Nat) : List Nat := ps.flatMap enc
theorem encL_cons (p : Nat) (ps : List Nat) : encL (p :: ps) = enc p ++ encL ps := rfl
theorem encL_append (a b : List Nat) : encL (a ++ b) = encL a ++ encL b := by unfold encL; simp
theorem encL_one (p : Nat) : encL [p] = enc p := by simp [encL]
theorem encL_lo {ps : List Nat} (h : ∀ p ∈ ps, Pt p) : ∀ x ∈ encL ps, x < 256 := by
  intro x hx
  unfold encL at hx
  obtain ⟨p, hp, hx⟩ := List.mem_flatMap.1 hx
  exact enc_lo (h p hp).1 x hx
theorem encL_len : ∀ ps : List Nat, (encL ps).length ≤ 4 * ps.length
  | [] => Nat.le_refl _
  | p :: ps => by
    have := encL_len ps
    have h1 := enc_len p
    have h2 := en_pos p
    rw [encL_cons]; simp only [List.length_append, List.length_cons]; omega
/-- how far a text is sound -/
def vdF : Nat → List Nat → Nat
  | 0, _ => 0
  | n + 1, l => if (dcd l).2.2 = true then (dcd l).2.1 + vdF n (l.drop (dcd l).2.1) else 0
def vd (l : List Nat) : Nat := vdF l.length l
theorem dcd_ne {l : List Nat} (h : (dcd l).2.2 = true) : l ≠ [] := by rintro rfl; cases h
theorem vdF_more : ∀ (n m : Nat) (l : List Nat), l.length ≤ n → l.length ≤ m → vdF n l = vdF m l
  | 0, m, l, h, _ => by
    obtain rfl : l = [] := List.length_eq_zero_iff.1 (by omega)
    cases m <;> rfl
  | n + 1, 0, l, _, h => by
    obtain rfl : l = [] := List.length_eq_zero_iff.1 (by omega)
    rfl
  | n + 1, m + 1, l, h1, h2 => by
    by_cases h : (dcd l).2.2 = true
    · have hw := dcd_wd (dcd_ne h)
      rw [vdF, vdF, if_pos h, if_pos h, vdF_more n m _ (by simp only [List.length_drop]; omega) (by simp only [List.length_drop]; omega)]
    · rw [vdF, vdF, if_neg h, if_neg h]
theorem vd_go {l : List Nat} (h : (dcd l).2.2 = true) : vd l = (dcd l).2.1 + vd (l.drop (dcd l).2.1) := by
  have hw := dcd_wd (dcd_ne h)
  have h1 : vd l = vdF (l.length + 1) l := vdF_more _ _ _ (by omega) (by omega)
  rw [h1, vdF, if_pos h]
  congr 1
  exact vdF_more _ _ _ (by simp only [List.length_drop]; omega) (by omega)
theorem vd_stop {l : List Nat} (h : (dcd l).2.2 = false) : vd l = 0 := by
  have h1 : vd l = vdF (l.length + 1) l := vdF_more _ _ _ (by omega) (by omega)
  rw [h1, vdF, if_neg (by rw [h]; exact Bool.false_ne_true)]
end Go.Proofs.YtpgiljibicigeaaGreatDoor.UM

/- What quote's reader tells, as functions of the bytes and the place. Nothing of the program. -/
namespace Go.Proofs.YtpgiljibicigeaaGreatDoor.QM
open Go.Proofs.YtpgiljibicigeaaGreatDoor.UM

/-- the next byte; -1 behind the last one -/
def pk (l : List Nat) (k : Nat) : Int := if k < l.length then ((l[k]?.getD 0 : Nat) : Int) else -1
/-- a hexadecimal digit's number -/
def dgv (c : Int) : Option Nat := if 48 ≤ c ∧ c ≤ 57 then some (c - 48).toNat else if 97 ≤ c ∧ c ≤ 102 then some (c - 87).toNat else if 65 ≤ c ∧ c ≤ 70 then some (c - 55).toNat else none
theorem dgv_lt {c : Int} {d : Nat} (h : dgv c = some d) : d < 16 := by
  unfold dgv at h
  repeat' split at h
  all_goals (cases h; try omega)
theorem dgv_pk {l : List Nat} {k d : Nat} (h : dgv (pk l k) = some d) : k < l.length := by
  unfold pk at h
  by_cases hk : k < l.length
  · exact hk
  · rw [if_neg hk, show dgv (-1) = none by decide] at h; cases h
def unitF (l : List Nat) : Nat → Nat → Nat → Int × Bool × Nat
  | 0, k, h => ((h : Int), true, k)
  | n + 1, k, h => match dgv (pk l k) with | none => (0, false, k) | some d => unitF l n (k + 1) (h * 16 + d)
def un (l : List Nat) (k : Nat) : Int × Bool × Nat := unitF l 4 k 0
def lowF (l : List Nat) (k : Nat) : Int × Bool × Nat :=
  if pk l k ≠ 92 then (0, false, k) else if pk l (k + 1) ≠ 117 then (0, false, k + 1) else
    ((un l (k + 2)).1, (un l (k + 2)).2.1 && decide (56320 ≤ (un l (k + 2)).1) && decide ((un l (k + 2)).1 ≤ 57343), (un l (k + 2)).2.2)
def codedF (l : List Nat) (k : Nat) : Int × Bool × Nat :=
  if (un l k).2.1 = false then (0, false, (un l k).2.2) else
  if (un l k).1 < 55296 ∨ 57343 < (un l k).1 then ((un l k).1, true, (un l k).2.2) else
  if 56320 ≤ (un l k).1 then (65533, true, (un l k).2.2) else
  if (lowF l (un l k).2.2).2.1 = true then (65536 + 1024 * ((un l k).1 - 55296) + (lowF l (un l k).2.2).1 - 56320, true, (lowF l (un l k).2.2).2.2) else (65533, true, (un l k).2.2)
def escF (l : List Nat) (k : Nat) : Int × Bool × Nat :=
  if pk l k = 34 ∨ pk l k = 92 ∨ pk l k = 47 then (pk l k, true, k + 1) else
  if pk l k = 98 then (8, true, k + 1) else if pk l k = 102 then (12, true, k + 1) else if pk l k = 110 then (10, true, k + 1) else
  if pk l k = 114 then (13, true, k + 1) else if pk l k = 116 then (9, true, k + 1) else if pk l k = 117 then codedF l (k + 1) else (0, false, k)
def cutB (r : List Nat) : Bool := (dcd (r ++ [128, 128, 128])).2.2 || (dcd (r ++ [191, 191, 191])).2.2
def pointF (l : List Nat) (k : Nat) : Int × Bool × Nat :=
  if (dcd ((l.drop k).take 4)).2.2 = true then (((dcd ((l.drop k).take 4)).1 : Nat), true, k + (dcd ((l.drop k).take 4)).2.1) else
  if cutB ((l.drop k).take 4) = true then (0, false, l.length) else (0, false, k)
def pieceF (l : List Nat) (k : Nat) : Int × Bool × Nat :=
  if pk l k < 32 then (0, false, k) else if 127 < pk l k then pointF l k else if pk l k = 92 then escF l (k + 1) else (pk l k, true, k + 1)
def faultF (l : List Nat) (k : Nat) : Nat := if pk l k = -1 then 5 else if 127 < pk l k then 7 else 2
theorem unitF_lt {l : List Nat} : ∀ {n k h : Nat}, h < 16 ^ (4 - n) → n ≤ 4 → 0 ≤ (unitF l n k h).1 ∧ (unitF l n k h).1 < 65536 := by
  intro n
  induction n with
  | zero => intro k h hh _; simp [unitF]; have : h < 65536 := hh; omega
  | succ n ih =>
    intro k h hh hn
    simp only [unitF]
    split
    · simp
    · rename_i d hd
      have h16 := dgv_lt hd
      refine ih ?_ (by omega)
      rw [show 4 - n = (4 - (n + 1)) + 1 by omega, Nat.pow_succ]
      omega
theorem un_lt (l : List Nat) (k : Nat) : 0 ≤ (un l k).1 ∧ (un l k).1 < 65536 := unitF_lt (by decide) (by decide)
theorem unitF_at {l : List Nat} : ∀ {n k h : Nat}, k ≤ l.length → k ≤ (unitF l n k h).2.2 ∧ (unitF l n k h).2.2 ≤ l.length := by
  intro n
  induction n with
  | zero => intro k h hk; exact ⟨Nat.le_refl _, hk⟩
  | succ n ih =>
    intro k h hk
    simp only [unitF]
    split
    · exact ⟨Nat.le_refl _, hk⟩
    · rename_i d hd
      have h1 := dgv_pk hd
      have h2 := ih (k := k + 1) (h := h * 16 + d) (by omega)
      exact ⟨by omega, h2.2⟩
theorem pk_pos {l : List Nat} {k : Nat} (h : pk l k ≠ -1) : k < l.length := by
  unfold pk at h
  by_cases hk : k < l.length
  · exact hk
  · rw [if_neg hk] at h; exact absurd rfl h
end Go.Proofs.YtpgiljibicigeaaGreatDoor.QM

/- The model's decoding of a text's bytes is the document's. Nothing of the program. -/
set_option linter.unusedSimpArgs false
namespace Go.Proofs.YtpgiljibicigeaaGreatDoor
open Go.RowKit UM

/-- a text's bytes -/
def bl (s : ByteArray) : List Nat := s.data.toList.map (fun (b : UInt8) => b.toNat)
theorem bl_len (s : ByteArray) : (bl s).length = s.size := by unfold bl; rw [List.length_map]; exact Array.length_toList
theorem bl_lo (s : ByteArray) : ∀ x ∈ bl s, x < 256 := by
  intro x hx
  unfold bl at hx
  obtain ⟨b, _, rfl⟩ := List.mem_map.1 hx
  exact b.toNat_lt
theorem bl_get (s : ByteArray) (j : Nat) (h : j < s.size) : (bl s)[j]?.getD 0 = s[j].toNat := by
  have h2 : j < s.data.toList.length := by rw [Array.length_toList]; exact h
  simp only [bl, List.getElem?_map, List.getElem?_eq_getElem h2, Option.map_some, Option.getD_some]
  rfl
theorem bl_inj {s t : ByteArray} (h : bl s = bl t) : s = t := by
  have h1 : s.data.toList = t.data.toList := by
    unfold bl at h
    exact List.map_inj_right (fun a b hab => UInt8.toNat_inj.1 hab) |>.1 h
  rcases s with ⟨⟨a⟩⟩; rcases t with ⟨⟨b⟩⟩
  simp only at h1; rw [h1]
theorem get_bang (s : ByteArray) (j : Nat) : (s.get! j).toNat = (bl s)[j]?.getD 0 := by
  rcases Nat.lt_or_ge j s.size with h | h
  · rw [bl_get s j h]
    show (s.data[j]!).toNat = _
    rw [getElem!_pos s.data j h]; rfl
  · have h2 : (bl s)[j]? = none := List.getElem?_eq_none (by rw [bl_len]; exact h)
    rw [h2]
    show (s.data[j]!).toNat = _
    rw [getElem!_neg s.data j (Nat.not_lt.2 h)]; rfl

def decL (L : List Nat) : Nat × Nat :=
  let at' (k : Nat) : Nat := L[k]?.getD 0
  let cont (k : Nat) : Bool := decide (k < L.length) && at' k / 64 == 2
  let b0 := at' 0
  if b0 < 0x80 then (b0, 1)
  else if b0 / 32 == 6 && cont 1 then
    let c := (b0 % 32) * 64 + at' 1 % 64
    if c ≥ 0x80 then (c, 2) else (65533, 1)
  else if b0 / 16 == 14 && cont 1 && cont 2 then
    let c := (b0 % 16) * 4096 + (at' 1 % 64) * 64 + at' 2 % 64
    if c ≥ 0x800 && Utf8.valid c then (c, 3) else (65533, 1)
  else if b0 / 8 == 30 && cont 1 && cont 2 && cont 3 then
    let c := (b0 % 8) * 262144 + (at' 1 % 64) * 4096 + (at' 2 % 64) * 64 + at' 3 % 64
    if c ≥ 0x10000 && Utf8.valid c then (c, 4) else (65533, 1)
  else (65533, 1)
theorem decode_decL (s : ByteArray) (pos : Nat) : Utf8.decode s pos = decL ((bl s).drop pos) := by
  have h1 : ∀ k, (s.get! (pos + k)).toNat = ((bl s).drop pos)[k]?.getD 0 := fun k => by rw [get_bang, List.getElem?_drop]
  have h2 : ∀ k, decide (pos + k < s.size) = decide (k < ((bl s).drop pos).length) := fun k => by
    rw [List.length_drop, bl_len]; congr 1; exact propext ⟨fun _ => by omega, fun _ => by omega⟩
  simp only [Utf8.decode, decL, h1, h2, Utf8.runeError]
theorem valid_pt (c : Nat) : Utf8.valid (c : Int) = decide (Pt c) := by
  rw [Bool.eq_iff_iff, decide_eq_true_iff]
  unfold Utf8.valid Pt
  simp only [Bool.or_eq_true, Bool.and_eq_true, decide_eq_true_eq]
  omega
theorem decL_dcd {L : List Nat} (hl : L ≠ []) : decL L = ((dcd L).1, (dcd L).2.1) := by
  rcases L with _ | ⟨a, t⟩
  · exact absurd rfl hl
  by_cases c1 : a < 128
  · simp [decL, dcd, c1]
  by_cases c2 : a / 32 = 6
  · have n3 : ¬ a / 16 = 14 := by omega
    have n4 : ¬ a / 8 = 30 := by omega
    rcases t with _ | ⟨b, t⟩
    · simp [decL, dcd, c1, c2, n3, n4, bad]
    by_cases g : b / 64 = 2
    · by_cases k : 128 ≤ a % 32 * 64 + b % 64 <;> simp [decL, dcd, c1, c2, n3, n4, bad, g, k]
    · simp [decL, dcd, c1, c2, n3, n4, bad, g]
  by_cases c3 : a / 16 = 14
  · have n4 : ¬ a / 8 = 30 := by omega
    rcases t with _ | ⟨b, _ | ⟨c, t⟩⟩
    · simp [decL, dcd, c1, c2, c3, n4, bad]
    · simp [decL, dcd, c1, c2, c3, n4, bad]
    by_cases g : b / 64 = 2
    · by_cases g2 : c / 64 = 2
      · have hv := valid_pt (a % 16 * 4096 + b % 64 * 64 + c % 64)
        by_cases k : 2048 ≤ a % 16 * 4096 + b % 64 * 64 + c % 64 <;> by_cases k2 : Pt (a % 16 * 4096 + b % 64 * 64 + c % 64) <;> simp only [k2] at hv <;> simp [decL, dcd, c1, c2, c3, n4, bad, g, g2, k, k2] <;> simp_all
      · simp [decL, dcd, c1, c2, c3, n4, bad, g, g2]
    · simp [decL, dcd, c1, c2, c3, n4, bad, g]
  by_cases c4 : a / 8 = 30
  · rcases t with _ | ⟨b, _ | ⟨c, _ | ⟨d, t⟩⟩⟩
    · simp [decL, dcd, c1, c2, c3, c4, bad]
    · simp [decL, dcd, c1, c2, c3, c4, bad]
    · simp [decL, dcd, c1, c2, c3, c4, bad]
    by_cases g : b / 64 = 2
    · by_cases g2 : c / 64 = 2
      · by_cases g3 : d / 64 = 2
        · have hv := valid_pt (a % 8 * 262144 + b % 64 * 4096 + c % 64 * 64 + d % 64)
          by_cases k : 65536 ≤ a % 8 * 262144 + b % 64 * 4096 + c % 64 * 64 + d % 64 <;> by_cases k2 : Pt (a % 8 * 262144 + b % 64 * 4096 + c % 64 * 64 + d % 64) <;> simp only [k2] at hv <;> simp [decL, dcd, c1, c2, c3, c4, bad, g, g2, g3, k, k2] <;> simp_all
        · simp [decL, dcd, c1, c2, c3, c4, bad, g, g2, g3]
      · simp [decL, dcd, c1, c2, c3, c4, bad, g, g2]
    · simp [decL, dcd, c1, c2, c3, c4, bad, g]
  · simp [decL, dcd, c1, c2, c3, c4, bad]
theorem decode_dcd (s : ByteArray) (pos : Nat) (h : pos < s.size) : Utf8.decode s pos = ((dcd ((bl s).drop pos)).1, (dcd ((bl s).drop pos)).2.1) := by
  rw [decode_decL]
  refine decL_dcd fun e => ?_
  have := congrArg List.length e
  simp only [List.length_drop, bl_len, List.length_nil] at this; omega
end Go.Proofs.YtpgiljibicigeaaGreatDoor
