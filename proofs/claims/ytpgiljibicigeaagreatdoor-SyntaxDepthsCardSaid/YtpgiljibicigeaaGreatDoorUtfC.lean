/- Decode of the program: what bytes begin with. -/
import Derived.Test.YtpgiljibicigeaaGreatDoorUtfB
set_option linter.unusedVariables false
set_option linter.unusedSimpArgs false
namespace Go.Proofs.YtpgiljibicigeaaGreatDoor
open Go.RowKit UM

theorem bl_drop (s : ByteArray) (k : Nat) (h : k < s.size) : (bl s).drop k = s[k].toNat :: (bl s).drop (k + 1) := by
  have h2 : k < (bl s).length := by rw [bl_len]; exact h
  rw [List.drop_eq_getElem_cons h2]
  congr 1
  have h3 := bl_get s k h
  rw [List.getElem?_eq_getElem h2, Option.getD_some] at h3
  exact h3
theorem bl_zero (s : ByteArray) (h : 0 < s.size) : bl s = s[0].toNat :: (bl s).drop 1 := by
  have h1 := bl_drop s 0 h
  rw [List.drop_zero] at h1
  exact h1
def ResDec (s : ByteArray) (w : World) (r : Ending) (w' : World) : Prop := r = .returned (.tuple #[.int .i64 ((dcd (bl s)).1 : Nat), .int .i64 ((dcd (bl s)).2.1 : Nat), .bool (dcd (bl s)).2.2]) ∧ ∃ n, w' = w.drewN n
theorem Decode_nil (w : World) : Calls Tryz.prog 24 #[.string ⟨#[]⟩] w (ResDec ⟨#[]⟩ w) := by
  go_enter Tryz.func24, Tryz.ntmps24
  go_wp2
  go_ret3
  exact ⟨rfl, 0, rfl⟩
theorem toList_ne {s : ByteArray} (h : 0 < s.size) : s.toList.isEmpty = false := by
  have h1 : s.toList = s.data.toList := ByteArray.toList_eq s
  rw [h1]
  cases e : s.data.toList with
  | nil =>
    have := congrArg List.length e
    rw [Array.length_toList] at this
    exact absurd this (by show ¬ s.size = 0; omega)
  | cons => rfl
theorem an63 : ∀ c : Fin 256, (bits BinOp.andNot IntKind.u8 (c.val : Int) 63 != 128) = decide (¬ c.val / 64 = 2) := by decide +kernel
/-- the byte at a place -/
def sb (s : ByteArray) (j : Nat) : Nat := (bl s)[j]?.getD 0
theorem sb_at (s : ByteArray) (j : Nat) (h : j < s.size) : sb s j = s[j].toNat := bl_get s j h
def own (n : Nat) : Nat := if n = 1 then 128 else if n = 2 then 32 else if n = 3 then 16 else 8
/-- the worth of a first byte's own bits and of k bytes behind -/
def mv (s : ByteArray) (a : Nat) : Nat → Nat
  | 0 => a
  | k + 1 => mv s a k * 64 + sb s (k + 1) % 64
/-- k bytes behind the first go on -/
def CT (s : ByteArray) : Nat → Prop
  | 0 => True
  | k + 1 => CT s k ∧ sb s (k + 1) / 64 = 2
theorem CT_le {s : ByteArray} : ∀ {k j : Nat}, k ≤ j → CT s j → CT s k
  | 0, _, _, _ => trivial
  | k + 1, 0, h, _ => absurd h (by omega)
  | k + 1, j + 1, h, c => by
    rcases Nat.lt_or_ge k j with h1 | h1
    · exact CT_le (k := k + 1) (j := j) (by omega) c.1
    · obtain rfl : k = j := by omega
      exact c
theorem mv_lt {s : ByteArray} {a : Nat} (ha : a < 128) : ∀ k, mv s a k < 128 * 64 ^ k
  | 0 => by simpa [mv] using ha
  | k + 1 => by
    have := mv_lt (s := s) ha k
    have h2 : sb s (k + 1) % 64 < 64 := by omega
    rw [mv, Nat.pow_succ]; omega
theorem mv_3 {s : ByteArray} {a k : Nat} (ha : a < 128) (hk : k ≤ 3) : mv s a k < 33554432 := by
  have h1 := mv_lt (s := s) ha k
  have h2 : 64 ^ k ≤ 64 ^ 3 := Nat.pow_le_pow_right (by omega) hk
  have : (64 : Nat) ^ 3 = 262144 := by decide
  omega
theorem sb0 (s : ByteArray) (h : 0 < s.size) : bl s = sb s 0 :: (bl s).drop 1 := by rw [sb_at s 0 h]; exact bl_zero s h
theorem sbk (s : ByteArray) (k : Nat) (h : k < s.size) : (bl s).drop k = sb s k :: (bl s).drop (k + 1) := by rw [sb_at s k h]; exact bl_drop s k h
theorem en_1 {p : Nat} : en p = 1 ↔ p < 128 := by unfold en; repeat' split
                                                  all_goals omega
theorem en_2 {p : Nat} : en p = 2 ↔ 128 ≤ p ∧ p < 2048 := by unfold en; repeat' split
                                                             all_goals omega
theorem en_3 {p : Nat} : en p = 3 ↔ 2048 ≤ p ∧ p < 65536 := by unfold en; repeat' split
                                                               all_goals omega
theorem en_4 {p : Nat} : en p = 4 ↔ 65536 ≤ p := by unfold en; repeat' split
                                                    all_goals omega
theorem sf_cases (a : Nat) : (sf a = 1 ∧ a < 128) ∨ (sf a = 2 ∧ ¬ a < 128 ∧ a / 32 = 6) ∨ (sf a = 3 ∧ ¬ a < 128 ∧ ¬ a / 32 = 6 ∧ a / 16 = 14) ∨ (sf a = 4 ∧ ¬ a < 128 ∧ ¬ a / 32 = 6 ∧ ¬ a / 16 = 14 ∧ a / 8 = 30) ∨ (sf a = 0 ∧ ¬ a < 128 ∧ ¬ a / 32 = 6 ∧ ¬ a / 16 = 14 ∧ ¬ a / 8 = 30) := by
  unfold sf
  by_cases c1 : a < 128
  · exact .inl ⟨by rw [if_pos c1], c1⟩
  by_cases c2 : a / 32 = 6
  · exact .inr (.inl ⟨by rw [if_neg c1, if_pos c2], c1, c2⟩)
  by_cases c3 : a / 16 = 14
  · exact .inr (.inr (.inl ⟨by rw [if_neg c1, if_neg c2, if_pos c3], c1, c2, c3⟩))
  by_cases c4 : a / 8 = 30
  · exact .inr (.inr (.inr (.inl ⟨by rw [if_neg c1, if_neg c2, if_neg c3, if_pos c4], c1, c2, c3, c4⟩)))
  · exact .inr (.inr (.inr (.inr ⟨by rw [if_neg c1, if_neg c2, if_neg c3, if_neg c4], c1, c2, c3, c4⟩)))
def d2 (a : Nat) : List Nat → Nat × Nat × Bool
  | b :: _ => if b / 64 = 2 ∧ 128 ≤ a % 32 * 64 + b % 64 then (a % 32 * 64 + b % 64, 2, true) else bad
  | _ => bad
def d3 (a : Nat) : List Nat → Nat × Nat × Bool
  | b :: c :: _ => if b / 64 = 2 ∧ c / 64 = 2 ∧ 2048 ≤ a % 16 * 4096 + b % 64 * 64 + c % 64 ∧ Pt (a % 16 * 4096 + b % 64 * 64 + c % 64) then (a % 16 * 4096 + b % 64 * 64 + c % 64, 3, true) else bad
  | _ => bad
def d4 (a : Nat) : List Nat → Nat × Nat × Bool
  | b :: c :: d :: _ => if b / 64 = 2 ∧ c / 64 = 2 ∧ d / 64 = 2 ∧ 65536 ≤ a % 8 * 262144 + b % 64 * 4096 + c % 64 * 64 + d % 64 ∧ Pt (a % 8 * 262144 + b % 64 * 4096 + c % 64 * 64 + d % 64) then (a % 8 * 262144 + b % 64 * 4096 + c % 64 * 64 + d % 64, 4, true) else bad
  | _ => bad
theorem dcd_cons (a : Nat) (t : List Nat) : dcd (a :: t) = if a < 128 then (a, 1, true) else if a / 32 = 6 then d2 a t else if a / 16 = 14 then d3 a t else if a / 8 = 30 then d4 a t else bad := by
  rcases t with _ | ⟨b, _ | ⟨c, _ | ⟨d, t⟩⟩⟩ <;> rfl
theorem dcd_none {s : ByteArray} (h : 0 < s.size) (h0 : sf (sb s 0) = 0) : dcd (bl s) = bad := by
  rcases sf_cases (sb s 0) with ⟨e, c⟩ | ⟨e, c⟩ | ⟨e, c⟩ | ⟨e, c⟩ | ⟨e, c1, c2, c3, c4⟩
  · omega
  · omega
  · omega
  · omega
  · rw [sb0 s h, dcd_cons, if_neg c1, if_neg c2, if_neg c3, if_neg c4]
theorem dcd_cut {s : ByteArray} (h : 0 < s.size) (h1 : s.size < sf (sb s 0)) : dcd (bl s) = bad := by
  have hl := bl_len s
  have h3 := sb0 s h
  have h4 : ((bl s).drop 1).length = s.size - 1 := by rw [List.length_drop, hl]
  generalize (bl s).drop 1 = t at *
  rw [h3]
  rcases sf_cases (sb s 0) with ⟨e, c⟩ | ⟨e, c1, c2⟩ | ⟨e, c1, c2, c3⟩ | ⟨e, c1, c2, c3, c4⟩ | ⟨e, c⟩
  · omega
  · rw [dcd_cons, if_neg c1, if_pos c2]
    match t, h4 with
    | [], _ => rfl
    | _ :: t, h4 => simp only [List.length_cons] at h4; omega
  · rw [dcd_cons, if_neg c1, if_neg c2, if_pos c3]
    match t, h4 with
    | [], _ => rfl
    | [_], _ => rfl
    | _ :: _ :: t, h4 => simp only [List.length_cons] at h4; omega
  · rw [dcd_cons, if_neg c1, if_neg c2, if_neg c3, if_pos c4]
    match t, h4 with
    | [], _ => rfl
    | [_], _ => rfl
    | [_, _], _ => rfl
    | _ :: _ :: _ :: t, h4 => simp only [List.length_cons] at h4; omega
  · omega
/-- what the bytes begin with, by the first one's size -/
theorem dcd_sf {s : ByteArray} {n : Nat} (h : 0 < s.size) (h0 : sf (sb s 0) = n) (h1 : 1 ≤ n) (h2 : n ≤ s.size) (P : Nat) (hP : P = mv s (sb s 0 % own n) (n - 1)) :
    (CT s (n - 1) ∧ Pt P ∧ en P = n → dcd (bl s) = (P, n, true)) ∧ (¬ (CT s (n - 1) ∧ Pt P ∧ en P = n) → dcd (bl s) = bad) := by
  rcases sf_cases (sb s 0) with ⟨e, c⟩ | ⟨e, c1, c2⟩ | ⟨e, c1, c2, c3⟩ | ⟨e, c1, c2, c3, c4⟩ | ⟨e, c⟩
  · obtain rfl : n = 1 := by omega
    have e1 : P = sb s 0 := by rw [hP]; show sb s 0 % 128 = sb s 0; omega
    rw [sb0 s h, dcd_cons, if_pos c, e1]
    refine ⟨fun _ => rfl, fun k => absurd ⟨trivial, ⟨by omega, by omega⟩, en_1.2 c⟩ k⟩
  · obtain rfl : n = 2 := by omega
    have e1 : P = sb s 0 % 32 * 64 + sb s 1 % 64 := by rw [hP]; simp [own, mv]
    rw [sb0 s h, sbk s 1 (by omega), dcd_cons, if_neg c1, if_pos c2]
    simp only [d2, ← e1]
    constructor
    · rintro ⟨⟨_, k1⟩, _, k2⟩
      rw [if_pos ⟨k1, (en_2.1 k2).1⟩]
    · intro k
      rw [if_neg]
      rintro ⟨k1, k2⟩
      exact k ⟨⟨trivial, k1⟩, ⟨by omega, by omega⟩, en_2.2 ⟨k2, by omega⟩⟩
  · obtain rfl : n = 3 := by omega
    have e1 : P = sb s 0 % 16 * 4096 + sb s 1 % 64 * 64 + sb s 2 % 64 := by rw [hP]; simp [own, mv]; omega
    rw [sb0 s h, sbk s 1 (by omega), sbk s 2 (by omega), dcd_cons, if_neg c1, if_neg c2, if_pos c3]
    simp only [d3, ← e1]
    constructor
    · rintro ⟨⟨⟨_, k1⟩, k3⟩, k4, k2⟩
      rw [if_pos ⟨k1, k3, (en_3.1 k2).1, k4⟩]
    · intro k
      rw [if_neg]
      rintro ⟨k1, k3, k2, k4⟩
      exact k ⟨⟨⟨trivial, k1⟩, k3⟩, k4, en_3.2 ⟨k2, by omega⟩⟩
  · obtain rfl : n = 4 := by omega
    have e1 : P = sb s 0 % 8 * 262144 + sb s 1 % 64 * 4096 + sb s 2 % 64 * 64 + sb s 3 % 64 := by rw [hP]; simp [own, mv]; omega
    rw [sb0 s h, sbk s 1 (by omega), sbk s 2 (by omega), sbk s 3 (by omega), dcd_cons, if_neg c1, if_neg c2, if_neg c3, if_pos c4]
    simp only [d4, ← e1]
    constructor
    · rintro ⟨⟨⟨⟨_, k1⟩, k3⟩, k5⟩, k4, k2⟩
      rw [if_pos ⟨k1, k3, k5, en_4.1 k2, k4⟩]
    · intro k
      rw [if_neg]
      rintro ⟨k1, k3, k5, k2, k4⟩
      exact k ⟨⟨⟨⟨trivial, k1⟩, k3⟩, k5⟩, k4, en_4.2 k2⟩
  · omega
end Go.Proofs.YtpgiljibicigeaaGreatDoor
