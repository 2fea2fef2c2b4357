/- Decode of the program: what bytes begin with. -/
import Derived.Test.YtpgiljibicigeaaGreatDoorUtfB
set_option linter.unusedVariables false
set_option linter.unusedSimpArgs false
namespace Go.Proofs.YtpgiljibicigeaaGreatDoor
open Go.RowKit UM

theorem bl_drop (s : ByteArray) (k : Nat) (h : k < s.size) : (bl s).drop k = s[k].toNat :: (bl s).drop (k + 1) := by
  have h2 : k < (bl s).length := by rw [bl_len]; exact h
  rw [List.drop_eq_getElem_cons h2]
  congr 1
  have h3 := bl_get s k h
  rw [List.getElem?_eq_getElem h2, Option.getD_some] at h3
  exact h3
theorem bl_zero (s : ByteArray) (h : 0 < s.size) : bl s = s[0].toNat :: (bl s).drop 1 := by
  have h1 := bl_drop s 0 h
  rw [List.drop_zero] at h1
  exact h1
def ResDec (s : ByteArray) (w : World) (r : Ending) (w' : World) : Prop := r = .returned (.tuple #[.int .i64 ((dcd (bl s)).1 : Nat), .int .i64 ((dcd (bl s)).2.1 : Nat), .bool (dcd (bl s)).2.2]) ∧ ∃ n, w' = w.drewN n
theorem Decode_nil (w : World) : Calls Tryz.prog 24 #[.string ⟨#[]⟩] w (ResDec ⟨#[]⟩ w) := by
  go_enter Tryz.func24, Tryz.ntmps24
  go_wp2
  go_ret3
  exact ⟨rfl, 0, rfl⟩
theorem toList_ne {s : ByteArray} (h : 0 < s.size) : s.toList.isEmpty = false := by
  have h1 : s.toList = s.data.toList := ByteArray.toList_eq s
  rw [h1]
  cases e : s.data.toList with
  | nil =>
    have := congrArg List.length e
    rw [Array.length_toList] at this
    exact absurd this (by show ¬ s.size = 0; omega)
  | cons => rfl
theorem an63 : ∀ c : Fin 256, (bits BinOp.andNot IntKind.u8 (c.val : Int) 63 != 128) = decide (¬ c.val / 64 = 2) := by decide +kernel
/-- the byte at a place -/
def sb (s : ByteArray) (j : Nat) : Nat := (bl s)[j]?.getD 0
theorem sb_at (s : ByteArray) (j : Nat) (h : j < s.size) : sb s j = s[j].toNat := bl_get s j h
def own (n : Nat) : Nat := if n = 1 then 128 else if n = 2 then 32 else if n = 3 then 16 else 8
/-- the worth of a first byte's own bits and of k bytes behind -/
def mv (s : ByteArray) (a : Nat) : Nat → Nat
  | 0 => a
  | k + 1 => mv s a k * 64 + sb s (k + 1) % 64
/-- k bytes behind the first go on -/
def CT (s : ByteArray) : Nat → Prop
  | 0 => True
  | k + 1 => CT s k ∧ sb s (k + 1) / 64 = 2
theorem CT_le {s : ByteArray} : ∀ {k j : Nat}, k ≤ j → CT s j → CT s k
  | 0, _, _, _ => trivial
  | k + 1, 0, h, _ => absurd h (by omega)
  | k + 1, j + 1, h, c => by
    rcases Nat.lt_or_ge k j with h1 | h1
    · exact CT_le (k := k + 1) (j := j) (by omega) c.1
    · obtain rfl : k = j := by omega
      exact c
theorem mv_lt {s : ByteArray} {a : Nat} (ha : a < 128) : ∀ k, mv s a k < 128 * 64 ^ k
  | 0 => by simpa [mv] using ha
  | k + 1 => by
    have := mv_lt (s := s) ha k
    have h2 : sb s (k + 1) % 64 < 64 := by omega
    rw [mv, Nat.pow_succ]; omega
theorem mv_3 {s : ByteArray} {a k : Nat} (ha : a < 128) (hk : k ≤ 3) : mv s a k < 33554432 := by
  have h1 := mv_lt (s := s) ha k
  have h2 : 64 ^ k ≤ 64 ^ 3 := Nat.pow_le_pow_right (by omega) hk
  have : (64 : Nat) ^ 3 = 262144 := by decide
  omega
theorem sb0 (s : ByteArray) (h : 0 < s.size) : bl s = sb s 0 :: (bl s).drop 1 := by rw [sb_at s 0 h]; exact bl_zero s h
theorem sbk (s : ByteArray) (k : Nat) (h : k < s.size) : (bl s).drop k = sb s k :: (bl s).drop (k + 1) := by rw [sb_at s k h]; exact bl_drop s k h
theorem en_1 {p : Nat} : en p = 1 ↔ p < 128 := by unfold en; repeat' split
                                                  all_goals omega
theorem en_2 {p : Nat} : en p = 2 ↔ 128 ≤ p ∧ p < 2048 := by unfold en; repeat' split
                                                             all_goals omega
theorem en_3 {p : Nat} : en p = 3 ↔ 2048 ≤ p ∧ p < 65536 := by unfold en; repeat' split
                                                               all_goals omega
theorem en_4 {p : Nat} : en p = 4 ↔ 65536 ≤ p := by unfold en; repeat' split
                                                    all_goals omega
theorem sf_cases (a : Nat) : (sf a = 1 ∧ a < 128) ∨ (sf a = 2 ∧ ¬ a < 128 ∧ a / 32 = 6) ∨ (sf a = 3 ∧ ¬ a < 128 ∧ ¬ a / 32 = 6 ∧ a / 16 = 14) ∨ (sf a = 4 ∧ ¬ a < 128 ∧ ¬ a / 32 = 6 ∧ ¬ a / 16 = 14 ∧ a / 8 = 30) ∨ (sf a = 0 ∧ ¬ a < 128 ∧ ¬ a / 32 = 6 ∧ ¬ a / 16 = 14 ∧ ¬ a / 8 = 30) := by
  unfold sf
  by_cases c1 : a < 128
  · exact .inl ⟨by rw [if_pos c1], c1⟩
  by_cases c2 : a / 32 = 6
  · exact .inr (.inl ⟨by rw [if_neg c1, if_pos c2], c1, c2⟩)
  by_cases c3 : a / 16 = 14
  · exact .inr (.inr (.inl ⟨by rw [if_neg c1, if_neg c2, if_pos c3], c1, c2, c3⟩))
  by_cases c4 : a / 8 = 30
  · exact .inr (.inr (.inr (.inl ⟨by rw [if_neg c1, if_neg c2, if_neg c3, if_pos c4], c1, c2, c3, c4⟩)))
  · exact .inr (.inr (.inr (.inr ⟨by rw [if_neg c1, if_neg c2, if_neg c3, if_neg c4], c1, c2, c3, c4⟩)))
def d2 (a : Nat) : List Nat → Nat × Nat × Bool
  | b :: _ => if b / 64 = 2 ∧ 128 ≤ a % 32 * 64 + b % 64 then (a % 32 * 64 + b % 64, 2, true) else bad
  | _ => bad
def d3 (a : Nat) : List Nat → Nat × Nat × Bool
  | b :: c :: _ => if b / 64 = 2 ∧ c / 64 = 2 ∧ 2048 ≤ a % 16 * 4096 + b % 64 * 64 + c % 64 ∧ Pt (a % 16 * 4096 + b % 64 * 64 + c % 64) then (a % 16 * 4096 + b % 64 * 64 + c % 64, 3, true) else bad
  | _ => bad
def d4 (a : Nat) : List Nat → Nat × Nat × Bool
  | b :: c :: d :: _ => if b / 64 = 2 ∧ c / 64 = 2 ∧ d / 64 = 2 ∧ 65536 ≤ a % 8 * 262144 + b % 64 * 4096 + c % 64 * 64 + d % 64 ∧ Pt (a % 8 * 262144 + b % 64 * 4096 + c % 64 * 64 + d % 64) then (a % 8 * 262144 + b % 64 * 4096 + c % 64 * 64 + d % 64, 4, true) else bad
  | _ => bad
theorem dcd_cons (a : Nat) (t : List Nat) : dcd (a :: t) = if a < 128 then (a, 1, true) else if a / 32 = 6 then d2 a t else if a / 16 = 14 then d3 a t else if a / 8 = 30 then d4 a t else bad := by
  rcases t with _ | ⟨b, _ | ⟨c, _ | ⟨d, t⟩⟩⟩ <;> rfl
theorem dcd_none {s : ByteArray} (h : 0 < s.size) (h0 : sf (sb s 0) = 0) : dcd (bl s) = bad := by
  rcases sf_cases (sb s 0) with ⟨e, c⟩ | ⟨e, c⟩ | ⟨e, c⟩ | ⟨e, c⟩ | ⟨e, c1, c2, c3, c4⟩
  · omega
  · omega
  · omega
  · omega
  · rw [sb0 s h, dcd_cons, if_neg c1, if_neg c2, if_neg c3, if_neg c4]
theorem dcd_cut {s : ByteArray} (h : 0 < s.size) (h1 : s.size < sf (sb s 0)) : dcd (bl s) = bad := by
  have hl := bl_len s
  have h3 := sb0 s h
  have h4 : ((bl s).drop 1).length = s.size - 1 := by rw [List.length_drop, hl]
  generalize (bl s).drop 1 = t at *
  rw [h3]
  rcases sf_cases (sb s 0) with ⟨e, c⟩ | ⟨e, c1, c2⟩ | ⟨e, c1, c2, c3⟩ | ⟨e, c1, c2, c3, c4⟩ | ⟨e, c⟩
  · omega
  · rw [dcd_cons, if_neg c1, if_pos c2]
    match t, h4 with
    | [], _ => rfl
    | _ :: t, h4 => simp only [List.length_cons] at h4; omega
  · rw [dcd_cons, if_neg c1, if_neg c2, if_pos c3]
    match t, h4 with
    | [], _ => rfl
    | [_], _ => rfl
    | _ :: _ :: t, h4 => simp only [List.length_cons] at h4; omega
  · rw [dcd_cons, if_neg c1, if_neg c2, if_neg c3, if_pos c4]
    match t, h4 with
    | [], _ => rfl
    | [_], _ => rfl
    | [_, _], _ => rfl
    | _ :: _ :: _ :: t, h4 => simp only [List.length_cons] at h4; omega
  · omega
/-- what the bytes begin with, by the first one's size -/
theorem dcd_sf {s : ByteArray} {n : Nat} (h : 0 < s.size) (h0 : sf (sb s 0) = n) (h1 : 1 ≤ n) (h2 : n ≤ s.size) (P : Nat) (hP : P = mv s (sb s 0 % own n) (n - 1)) :
    (CT s (n - 1) ∧ Pt P ∧ en P = n → dcd (bl s) = (P, n, true)) ∧ (¬ (CT s (n - 1) ∧ Pt P ∧ en P = n) → dcd (bl s) = bad) := by
  rcases sf_cases (sb s 0) with ⟨e, c⟩ | ⟨e, c1, c2⟩ | ⟨e, c1, c2, c3⟩ | ⟨e, c1, c2, c3, c4⟩ | ⟨e, c⟩
  · obtain rfl : n = 1 := by omega
    have e1 : P = sb s 0 := by rw [hP]; show sb s 0 % 128 = sb s 0; omega
    rw [sb0 s h, dcd_cons, if_pos c, e1]
    refine ⟨fun _ => rfl, fun k => absurd ⟨trivial, ⟨by omega, by omega⟩, en_1.2 c⟩ k⟩
  · obtain rfl : n = 2 := by omega
    have e1 : P = sb s 0 % 32 * 64 + sb s 1 % 64 := by rw [hP]; simp [own, mv]
    rw [sb0 s h, sbk s 1 (by omega), dcd_cons, if_neg c1, if_pos c2]
    simp only [d2, ← e1]
    constructor
    · rintro ⟨⟨_, k1⟩, _, k2⟩
      rw [if_pos ⟨k1, (en_2.1 k2).1⟩]
    · intro k
      rw [if_neg]
      rintro ⟨k1, k2⟩
      exact k ⟨⟨trivial, k1⟩, ⟨by omega, by omega⟩, en_2.2 ⟨k2, by omega⟩⟩
  · obtain rfl : n = 3 := by omega
    have e1 : P = sb s 0 % 16 * 4096 + sb s 1 % 64 * 64 + sb s 2 % 64 := by rw [hP]; simp [own, mv]; omega
    rw [sb0 s h, sbk s 1 (by omega), sbk s 2 (by omega), dcd_cons, if_neg c1, if_neg c2, if_pos c3]
    simp only [d3, ← e1]
    constructor
    · rintro ⟨⟨⟨_, k1⟩, k3⟩, k4, k2⟩
      rw [if_pos ⟨k1, k3, (en_3.1 k2).1, k4⟩]
    · intro k
      rw [if_neg]
      rintro ⟨k1, k3, k2, k4⟩
      exact k ⟨⟨⟨trivial, k1⟩, k3⟩, k4, en_3.2 ⟨k2, by omega⟩⟩
  · obtain rfl : n = 4 := by omega
    have e1 : P = sb s 0 % 8 * 262144 + sb s 1 % 64 * 4096 + sb s 2 % 64 * 64 + sb s 3 % 64 := by rw [hP]; simp [own, mv]; omega
    rw [sb0 s h, sbk s 1 (by omega), sbk s 2 (by omega), sbk s 3 (by omega), dcd_cons, if_neg c1, if_neg c2, if_neg c3, if_pos c4]
    simp only [d4, ← e1]
    constructor
    · rintro ⟨⟨⟨⟨_, k1⟩, k3⟩, k5⟩, k4, k2⟩
      rw [if_pos ⟨k1, k3, k5, en_4.1 k2, k4⟩]
    · intro k
      rw [if_neg]
      rintro ⟨k1, k3, k5, k2, k4⟩
      exact k ⟨⟨⟨⟨trivial, k1⟩, k3⟩, k5⟩, k4, en_4.2 k2⟩
  · omega
end Go.Proofs.YtpgiljibicigeaaGreatDoor

/- Walk of the program's Decode. -/
namespace Go.Proofs.YtpgiljibicigeaaGreatDoor
open Go.RowKit UM

theorem and127 : ∀ c : Fin 256, bits BinOp.and IntKind.u8 (c.val : Int) 127 = ((c.val % 128 : Nat) : Int) := by decide +kernel
theorem and31 : ∀ c : Fin 256, bits BinOp.and IntKind.u8 (c.val : Int) 31 = ((c.val % 32 : Nat) : Int) := by decide +kernel
theorem and15 : ∀ c : Fin 256, bits BinOp.and IntKind.u8 (c.val : Int) 15 = ((c.val % 16 : Nat) : Int) := by decide +kernel
theorem and7 : ∀ c : Fin 256, bits BinOp.and IntKind.u8 (c.val : Int) 7 = ((c.val % 8 : Nat) : Int) := by decide +kernel
theorem and63 : ∀ c : Fin 256, bits BinOp.and IntKind.u8 (c.val : Int) 63 = ((c.val % 64 : Nat) : Int) := by decide +kernel
theorem or_join (x y : Nat) (hx : x < 33554432) (hy : y < 64) : bits BinOp.or IntKind.i64 ((x : Int) * 64) (y : Int) = ((x * 64 + y : Nat) : Int) := by
  have e0 : (x : Int) * 64 = ((x * 64 : Nat) : Int) := by omega
  rw [e0]
  show IntKind.i64.wrap ((BitVec.ofInt 64 ((x * 64 : Nat) : Int) ||| BitVec.ofInt 64 (y : Int)).toNat : Int) = _
  have h1 : ∀ n : Nat, n < 18446744073709551616 → (BitVec.ofInt 64 (n : Int)).toNat = n := fun n h => by
    rw [BitVec.ofInt_natCast, BitVec.toNat_ofNat]; exact Nat.mod_eq_of_lt h
  rw [BitVec.toNat_or, h1 _ (by omega), h1 _ (by omega)]
  have h2 : x * 64 ||| y = x * 64 + y := by
    have := Nat.shiftLeft_add_eq_or_of_lt (a := x) (b := y) (i := 6) hy
    rw [Nat.shiftLeft_eq] at this
    exact this.symm
  rw [h2]
  exact IntWalk.i64_in _ (by omega)
theorem or_join' (x y : Nat) (hx : x < 33554432) : bits BinOp.or IntKind.i64 ((x : Int) * 64) ((y : Int) % 64) = ((x * 64 + y % 64 : Nat) : Int) := by
  rw [show (y : Int) % 64 = ((y % 64 : Nat) : Int) by omega]
  exact or_join x (y % 64) hx (by omega)
theorem isPt_nat (p : Nat) : isPt (p : Int) = decide (Pt p) := by
  by_cases h : Pt p
  · rw [decide_eq_true h]
    unfold Pt at h
    exact decide_eq_true (by omega)
  · rw [decide_eq_false h]
    unfold Pt at h
    exact decide_eq_false (by omega)
/-- the round of the loop over the bytes behind the first -/
def DRel (s : ByteArray) (a n : Nat) (v6 v7 : Value) : Prop := ∃ k P : Nat, v7 = .int .i64 ((k : Int) + 1) ∧ v6 = .int .i64 P ∧ k + 1 ≤ n ∧ Hid (P = mv s a k) ∧ Hid (CT s k)
theorem ret_dec {s : ByteArray} {w : World} {p m : Nat} {b : Bool} {w' : World} {n : Nat} (h : dcd (bl s) = (p, m, b)) (hw : w' = w.drewN n) : ResDec s w (.returned (.tuple #[.int .i64 (p : Int), .int .i64 (m : Int), .bool b])) w' := ⟨by rw [h], n, hw⟩

theorem Decode_0 (s : ByteArray) (w : World) (ht : Sh w) (h0 : 0 < s.size) (hn : sf s[0].toNat = 0 ∨ s.size < sf s[0].toNat) : Calls Tryz.prog 24 #[.string s] w (ResDec s w) := by
  have hF := fun W h => sizeFromFirst_any s[0].toNat W s[0].toNat_lt h
  have hbd : dcd (bl s) = bad := by
    rcases hn with h | h
    · exact dcd_none h0 (by rw [sb_at s 0 h0]; exact h)
    · exact dcd_cut h0 (by rw [sb_at s 0 h0]; exact h)
  generalize sf s[0].toNat = n at *
  have HF := Lib.hid hF
  have HB := Lib.hid hbd
  have e1 := toList_ne h0
  clear hF hbd
  go_enter Tryz.func24, Tryz.ntmps24
  go_wp2_with fail
  refine (HF.out _ ht).mono ?_
  rintro r w1 ⟨rfl, n1, rfl⟩
  clear HF e1
  by_cases h2 : n = 0
  · subst h2
    go_wp2
    go_ret3
    exact ret_dec HB.out rfl
  · have h3 : s.size < n := by omega
    have h4 : ((n : Int) == 0) = false := by simp; omega
    have h5 : decide (s.size < n) = true := decide_eq_true h3
    clear hn
    go_wp2
    all_goals
      go_ret3
      exact ret_dec HB.out rfl


set_option maxHeartbeats 8000000 in
theorem Decode_1 (s : ByteArray) (w : World) (hs : s.size ≤ 140737488351232) (ht : Sh w) (h0 : 0 < s.size) (hn : sf s[0].toNat = 1) (hsz : 1 ≤ s.size) : Calls Tryz.prog 24 #[.string s] w (ResDec s w) := by
  have hF := fun W h => sizeFromFirst_any s[0].toNat W s[0].toNat_lt h
  have e0 := sb_at s 0 h0
  have hD := fun P hP => dcd_sf (n := 1) h0 (by rw [e0]; exact hn) (by omega) hsz P hP
  rw [hn] at hF
  rw [e0] at hD
  have HF := Lib.hid hF
  have HD := Lib.hid hD
  have e1 := toList_ne h0
  clear hF hn hD e0
  go_enter Tryz.func24, Tryz.ntmps24
  go_wp2_with fail
  refine (HF.out _ ht).mono ?_
  rintro r w1 ⟨rfl, n1, rfl⟩
  clear HF e1
  have HT := Lib.hid ht
  obtain ⟨k0, k1, k2, k3, k4, k5, k6, k7, k8, k9, k10, k11⟩ := ht
  have q1 : IntKind.i64.wrap 0 = 0 := by decide
  have q2 := and127 ⟨s[0].toNat, s[0].toNat_lt⟩
  simp only at q2
  have q3 : ¬ s.size < 1 := by omega
  have q4 : decide (s.size < 1) = false := decide_eq_false q3
  have hP0 : s[0].toNat % 128 < 128 := by omega
  obtain ⟨a, ha⟩ : ∃ a, a = s[0].toNat % 128 := ⟨_, rfl⟩
  rw [← ha] at q2 hP0
  have HA := Lib.hid ha
  clear ha
  go_wp2
  go_quiet (fail)
  clear k0 k1 k2 k3 k4 k5 k6 k7 k8 k9 k10 k11 q1 q2 q4
  simp only [World.drewN_drewN]
  generalize n1 + nq = m1
  go_wp2
  go_loop [6, 7] (fun v6 v7 => DRel s a 1 v6 v7) (fun _ v7 => 1 - (intOf v7).toNat)
  case atStart => exact ⟨0, a, rfl, by first | rfl | (congr 1; exact IntWalk.i64_in _ (by omega)), by omega, Lib.hid rfl, Lib.hid trivial⟩
  case round =>
    obtain ⟨k, P, rfl, rfl, hk, hP, hC⟩ := hrel
    have hPl : P < 33554432 := by rw [hP.out]; exact mv_3 hP0 (by omega)
    by_cases hlt : k + 1 < 1
    · exact absurd hlt (by omega)
    · obtain rfl : k = 0 := by omega
      have hG := HD.out P (by rw [hP.out, HA.out]; rfl)
      have hI := fun W => isPoint_any (P : Int) W
      rw [isPt_nat] at hI
      have HC := Lib.hid hC.out
      clear hP hC
      by_cases hpt : Pt P
      · rw [decide_eq_true hpt] at hI
        have hS := fun W h => sizeOf_any P W hpt.1 h
        have HI := Lib.hid hI; have HS := Lib.hid hS; have HT2 := Lib.hid (HT.out.dN m1)
        clear hI hS
        by_cases hen : en P = 1
        · have HE := Lib.hid (hG.1 ⟨HC.out, hpt, hen⟩)
          rw [hen] at HS
          clear hG hpt hen
          go_wp2_with (first | (go_at_call 30; refine (HI.out _).mono ?_; rintro e w' ⟨rfl, rfl⟩) | (go_at_call 31; refine (HS.out _ HT2.out).mono ?_; rintro e w' ⟨rfl, rfl⟩))
          go_ret3
          exact ret_dec HE.out rfl
        · have HE := Lib.hid (hG.2 (fun h => hen h.2.2))
          have he1 : ((en P : Int) != 1) = true := by simp; omega
          have he2 : ¬ (en P : Int) = 1 := by omega
          clear hG hpt hen
          go_wp2_with (first | (go_at_call 30; refine (HI.out _).mono ?_; rintro e w' ⟨rfl, rfl⟩) | (go_at_call 31; refine (HS.out _ HT2.out).mono ?_; rintro e w' ⟨rfl, rfl⟩))
          go_ret3
          exact ret_dec HE.out rfl
      · rw [decide_eq_false hpt] at hI
        have HI := Lib.hid hI
        have HE := Lib.hid (hG.2 (fun h => hpt h.2.1))
        clear hI hG hpt
        go_wp2_with (go_at_call 30; refine (HI.out _).mono ?_; rintro e w' ⟨rfl, rfl⟩)
        go_ret3
        exact ret_dec HE.out rfl


set_option maxHeartbeats 8000000 in
theorem Decode_2 (s : ByteArray) (w : World) (hs : s.size ≤ 140737488351232) (ht : Sh w) (h0 : 0 < s.size) (hn : sf s[0].toNat = 2) (hsz : 2 ≤ s.size) : Calls Tryz.prog 24 #[.string s] w (ResDec s w) := by
  have hF := fun W h => sizeFromFirst_any s[0].toNat W s[0].toNat_lt h
  have e0 := sb_at s 0 h0
  have hD := fun P hP => dcd_sf (n := 2) h0 (by rw [e0]; exact hn) (by omega) hsz P hP
  rw [hn] at hF
  rw [e0] at hD
  have HF := Lib.hid hF
  have HD := Lib.hid hD
  have e1 := toList_ne h0
  clear hF hn hD e0
  go_enter Tryz.func24, Tryz.ntmps24
  go_wp2_with fail
  refine (HF.out _ ht).mono ?_
  rintro r w1 ⟨rfl, n1, rfl⟩
  clear HF e1
  have HT := Lib.hid ht
  obtain ⟨k0, k1, k2, k3, k4, k5, k6, k7, k8, k9, k10, k11⟩ := ht
  have q1 : IntKind.i64.wrap 1 = 1 := by decide
  have q2 := and31 ⟨s[0].toNat, s[0].toNat_lt⟩
  simp only at q2
  have q3 : ¬ s.size < 2 := by omega
  have q4 : decide (s.size < 2) = false := decide_eq_false q3
  have hP0 : s[0].toNat % 32 < 128 := by omega
  obtain ⟨a, ha⟩ : ∃ a, a = s[0].toNat % 32 := ⟨_, rfl⟩
  rw [← ha] at q2 hP0
  have HA := Lib.hid ha
  clear ha
  go_wp2
  go_quiet (fail)
  clear k0 k1 k2 k3 k4 k5 k6 k7 k8 k9 k10 k11 q1 q2 q4
  simp only [World.drewN_drewN]
  generalize n1 + nq = m1
  go_wp2
  go_loop [6, 7] (fun v6 v7 => DRel s a 2 v6 v7) (fun _ v7 => 2 - (intOf v7).toNat)
  case atStart => exact ⟨0, a, rfl, by first | rfl | (congr 1; exact IntWalk.i64_in _ (by omega)), by omega, Lib.hid rfl, Lib.hid trivial⟩
  case round =>
    obtain ⟨k, P, rfl, rfl, hk, hP, hC⟩ := hrel
    have hPl : P < 33554432 := by rw [hP.out]; exact mv_3 hP0 (by omega)
    by_cases hlt : k + 1 < 2
    · have hi : k + 1 < s.size := by omega
      have hb := sb_at s (k + 1) hi
      have t0 := an63 ⟨s[k + 1].toNat, s[k + 1].toNat_lt⟩
      have t1 := and63 ⟨s[k + 1].toNat, s[k + 1].toNat_lt⟩
      simp only at t0 t1
      have HT0 := Lib.hid t0; have HT1 := Lib.hid t1
      clear t0 t1
      have HPP := Lib.hid hP; have HB := Lib.hid hb
      clear hP hb
      by_cases hc : s[k + 1].toNat / 64 = 2
      · have t2 : (bits BinOp.andNot IntKind.u8 (s[k + 1].toNat : Int) 63 != 128) = false := by rw [HT0.out]; exact decide_eq_false (fun h => h hc)
        have t3 := HT1.out
        go_wp2
        go_round
        case rel => exact ⟨k + 1, P * 64 + s[k + 1].toNat % 64, by go_num, by congr 1; exact or_join' P _ hPl, by omega, Lib.hid (by rw [mv, HPP.out, HB.out]), Lib.hid ⟨hC.out, by rw [HB.out]; exact hc⟩⟩
        case measure => simp [intOf]; omega
      · have t2 : (bits BinOp.andNot IntKind.u8 (s[k + 1].toNat : Int) 63 != 128) = true := by rw [HT0.out]; exact decide_eq_true hc
        have HBD := Lib.hid ((HD.out _ rfl).2 (fun h => hc (by have := (CT_le (k := k + 1) (by omega) h.1).2; rw [HB.out] at this; exact this)))
        go_wp2
        go_ret3
        exact ret_dec HBD.out rfl
    · obtain rfl : k = 1 := by omega
      have hG := HD.out P (by rw [hP.out, HA.out]; rfl)
      have hI := fun W => isPoint_any (P : Int) W
      rw [isPt_nat] at hI
      have HC := Lib.hid hC.out
      clear hP hC
      by_cases hpt : Pt P
      · rw [decide_eq_true hpt] at hI
        have hS := fun W h => sizeOf_any P W hpt.1 h
        have HI := Lib.hid hI; have HS := Lib.hid hS; have HT2 := Lib.hid (HT.out.dN m1)
        clear hI hS
        by_cases hen : en P = 2
        · have HE := Lib.hid (hG.1 ⟨HC.out, hpt, hen⟩)
          rw [hen] at HS
          clear hG hpt hen
          go_wp2_with (first | (go_at_call 30; refine (HI.out _).mono ?_; rintro e w' ⟨rfl, rfl⟩) | (go_at_call 31; refine (HS.out _ HT2.out).mono ?_; rintro e w' ⟨rfl, rfl⟩))
          go_ret3
          exact ret_dec HE.out rfl
        · have HE := Lib.hid (hG.2 (fun h => hen h.2.2))
          have he1 : ((en P : Int) != 2) = true := by simp; omega
          have he2 : ¬ (en P : Int) = 2 := by omega
          clear hG hpt hen
          go_wp2_with (first | (go_at_call 30; refine (HI.out _).mono ?_; rintro e w' ⟨rfl, rfl⟩) | (go_at_call 31; refine (HS.out _ HT2.out).mono ?_; rintro e w' ⟨rfl, rfl⟩))
          go_ret3
          exact ret_dec HE.out rfl
      · rw [decide_eq_false hpt] at hI
        have HI := Lib.hid hI
        have HE := Lib.hid (hG.2 (fun h => hpt h.2.1))
        clear hI hG hpt
        go_wp2_with (go_at_call 30; refine (HI.out _).mono ?_; rintro e w' ⟨rfl, rfl⟩)
        go_ret3
        exact ret_dec HE.out rfl


set_option maxHeartbeats 8000000 in
theorem Decode_3 (s : ByteArray) (w : World) (hs : s.size ≤ 140737488351232) (ht : Sh w) (h0 : 0 < s.size) (hn : sf s[0].toNat = 3) (hsz : 3 ≤ s.size) : Calls Tryz.prog 24 #[.string s] w (ResDec s w) := by
  have hF := fun W h => sizeFromFirst_any s[0].toNat W s[0].toNat_lt h
  have e0 := sb_at s 0 h0
  have hD := fun P hP => dcd_sf (n := 3) h0 (by rw [e0]; exact hn) (by omega) hsz P hP
  rw [hn] at hF
  rw [e0] at hD
  have HF := Lib.hid hF
  have HD := Lib.hid hD
  have e1 := toList_ne h0
  clear hF hn hD e0
  go_enter Tryz.func24, Tryz.ntmps24
  go_wp2_with fail
  refine (HF.out _ ht).mono ?_
  rintro r w1 ⟨rfl, n1, rfl⟩
  clear HF e1
  have HT := Lib.hid ht
  obtain ⟨k0, k1, k2, k3, k4, k5, k6, k7, k8, k9, k10, k11⟩ := ht
  have q1 : IntKind.i64.wrap 2 = 2 := by decide
  have q2 := and15 ⟨s[0].toNat, s[0].toNat_lt⟩
  simp only at q2
  have q3 : ¬ s.size < 3 := by omega
  have q4 : decide (s.size < 3) = false := decide_eq_false q3
  have hP0 : s[0].toNat % 16 < 128 := by omega
  obtain ⟨a, ha⟩ : ∃ a, a = s[0].toNat % 16 := ⟨_, rfl⟩
  rw [← ha] at q2 hP0
  have HA := Lib.hid ha
  clear ha
  go_wp2
  go_quiet (fail)
  clear k0 k1 k2 k3 k4 k5 k6 k7 k8 k9 k10 k11 q1 q2 q4
  simp only [World.drewN_drewN]
  generalize n1 + nq = m1
  go_wp2
  go_loop [6, 7] (fun v6 v7 => DRel s a 3 v6 v7) (fun _ v7 => 3 - (intOf v7).toNat)
  case atStart => exact ⟨0, a, rfl, by first | rfl | (congr 1; exact IntWalk.i64_in _ (by omega)), by omega, Lib.hid rfl, Lib.hid trivial⟩
  case round =>
    obtain ⟨k, P, rfl, rfl, hk, hP, hC⟩ := hrel
    have hPl : P < 33554432 := by rw [hP.out]; exact mv_3 hP0 (by omega)
    by_cases hlt : k + 1 < 3
    · have hi : k + 1 < s.size := by omega
      have hb := sb_at s (k + 1) hi
      have t0 := an63 ⟨s[k + 1].toNat, s[k + 1].toNat_lt⟩
      have t1 := and63 ⟨s[k + 1].toNat, s[k + 1].toNat_lt⟩
      simp only at t0 t1
      have HT0 := Lib.hid t0; have HT1 := Lib.hid t1
      clear t0 t1
      have HPP := Lib.hid hP; have HB := Lib.hid hb
      clear hP hb
      by_cases hc : s[k + 1].toNat / 64 = 2
      · have t2 : (bits BinOp.andNot IntKind.u8 (s[k + 1].toNat : Int) 63 != 128) = false := by rw [HT0.out]; exact decide_eq_false (fun h => h hc)
        have t3 := HT1.out
        go_wp2
        go_round
        case rel => exact ⟨k + 1, P * 64 + s[k + 1].toNat % 64, by go_num, by congr 1; exact or_join' P _ hPl, by omega, Lib.hid (by rw [mv, HPP.out, HB.out]), Lib.hid ⟨hC.out, by rw [HB.out]; exact hc⟩⟩
        case measure => simp [intOf]; omega
      · have t2 : (bits BinOp.andNot IntKind.u8 (s[k + 1].toNat : Int) 63 != 128) = true := by rw [HT0.out]; exact decide_eq_true hc
        have HBD := Lib.hid ((HD.out _ rfl).2 (fun h => hc (by have := (CT_le (k := k + 1) (by omega) h.1).2; rw [HB.out] at this; exact this)))
        go_wp2
        go_ret3
        exact ret_dec HBD.out rfl
    · obtain rfl : k = 2 := by omega
      have hG := HD.out P (by rw [hP.out, HA.out]; rfl)
      have hI := fun W => isPoint_any (P : Int) W
      rw [isPt_nat] at hI
      have HC := Lib.hid hC.out
      clear hP hC
      by_cases hpt : Pt P
      · rw [decide_eq_true hpt] at hI
        have hS := fun W h => sizeOf_any P W hpt.1 h
        have HI := Lib.hid hI; have HS := Lib.hid hS; have HT2 := Lib.hid (HT.out.dN m1)
        clear hI hS
        by_cases hen : en P = 3
        · have HE := Lib.hid (hG.1 ⟨HC.out, hpt, hen⟩)
          rw [hen] at HS
          clear hG hpt hen
          go_wp2_with (first | (go_at_call 30; refine (HI.out _).mono ?_; rintro e w' ⟨rfl, rfl⟩) | (go_at_call 31; refine (HS.out _ HT2.out).mono ?_; rintro e w' ⟨rfl, rfl⟩))
          go_ret3
          exact ret_dec HE.out rfl
        · have HE := Lib.hid (hG.2 (fun h => hen h.2.2))
          have he1 : ((en P : Int) != 3) = true := by simp; omega
          have he2 : ¬ (en P : Int) = 3 := by omega
          clear hG hpt hen
          go_wp2_with (first | (go_at_call 30; refine (HI.out _).mono ?_; rintro e w' ⟨rfl, rfl⟩) | (go_at_call 31; refine (HS.out _ HT2.out).mono ?_; rintro e w' ⟨rfl, rfl⟩))
          go_ret3
          exact ret_dec HE.out rfl
      · rw [decide_eq_false hpt] at hI
        have HI := Lib.hid hI
        have HE := Lib.hid (hG.2 (fun h => hpt h.2.1))
        clear hI hG hpt
        go_wp2_with (go_at_call 30; refine (HI.out _).mono ?_; rintro e w' ⟨rfl, rfl⟩)
        go_ret3
        exact ret_dec HE.out rfl


set_option maxHeartbeats 8000000 in
theorem Decode_4 (s : ByteArray) (w : World) (hs : s.size ≤ 140737488351232) (ht : Sh w) (h0 : 0 < s.size) (hn : sf s[0].toNat = 4) (hsz : 4 ≤ s.size) : Calls Tryz.prog 24 #[.string s] w (ResDec s w) := by
  have hF := fun W h => sizeFromFirst_any s[0].toNat W s[0].toNat_lt h
  have e0 := sb_at s 0 h0
  have hD := fun P hP => dcd_sf (n := 4) h0 (by rw [e0]; exact hn) (by omega) hsz P hP
  rw [hn] at hF
  rw [e0] at hD
  have HF := Lib.hid hF
  have HD := Lib.hid hD
  have e1 := toList_ne h0
  clear hF hn hD e0
  go_enter Tryz.func24, Tryz.ntmps24
  go_wp2_with fail
  refine (HF.out _ ht).mono ?_
  rintro r w1 ⟨rfl, n1, rfl⟩
  clear HF e1
  have HT := Lib.hid ht
  obtain ⟨k0, k1, k2, k3, k4, k5, k6, k7, k8, k9, k10, k11⟩ := ht
  have q1 : IntKind.i64.wrap 3 = 3 := by decide
  have q2 := and7 ⟨s[0].toNat, s[0].toNat_lt⟩
  simp only at q2
  have q3 : ¬ s.size < 4 := by omega
  have q4 : decide (s.size < 4) = false := decide_eq_false q3
  have hP0 : s[0].toNat % 8 < 128 := by omega
  obtain ⟨a, ha⟩ : ∃ a, a = s[0].toNat % 8 := ⟨_, rfl⟩
  rw [← ha] at q2 hP0
  have HA := Lib.hid ha
  clear ha
  go_wp2
  go_quiet (fail)
  clear k0 k1 k2 k3 k4 k5 k6 k7 k8 k9 k10 k11 q1 q2 q4
  simp only [World.drewN_drewN]
  generalize n1 + nq = m1
  go_wp2
  go_loop [6, 7] (fun v6 v7 => DRel s a 4 v6 v7) (fun _ v7 => 4 - (intOf v7).toNat)
  case atStart => exact ⟨0, a, rfl, by first | rfl | (congr 1; exact IntWalk.i64_in _ (by omega)), by omega, Lib.hid rfl, Lib.hid trivial⟩
  case round =>
    obtain ⟨k, P, rfl, rfl, hk, hP, hC⟩ := hrel
    have hPl : P < 33554432 := by rw [hP.out]; exact mv_3 hP0 (by omega)
    by_cases hlt : k + 1 < 4
    · have hi : k + 1 < s.size := by omega
      have hb := sb_at s (k + 1) hi
      have t0 := an63 ⟨s[k + 1].toNat, s[k + 1].toNat_lt⟩
      have t1 := and63 ⟨s[k + 1].toNat, s[k + 1].toNat_lt⟩
      simp only at t0 t1
      have HT0 := Lib.hid t0; have HT1 := Lib.hid t1
      clear t0 t1
      have HPP := Lib.hid hP; have HB := Lib.hid hb
      clear hP hb
      by_cases hc : s[k + 1].toNat / 64 = 2
      · have t2 : (bits BinOp.andNot IntKind.u8 (s[k + 1].toNat : Int) 63 != 128) = false := by rw [HT0.out]; exact decide_eq_false (fun h => h hc)
        have t3 := HT1.out
        go_wp2
        go_round
        case rel => exact ⟨k + 1, P * 64 + s[k + 1].toNat % 64, by go_num, by congr 1; exact or_join' P _ hPl, by omega, Lib.hid (by rw [mv, HPP.out, HB.out]), Lib.hid ⟨hC.out, by rw [HB.out]; exact hc⟩⟩
        case measure => simp [intOf]; omega
      · have t2 : (bits BinOp.andNot IntKind.u8 (s[k + 1].toNat : Int) 63 != 128) = true := by rw [HT0.out]; exact decide_eq_true hc
        have HBD := Lib.hid ((HD.out _ rfl).2 (fun h => hc (by have := (CT_le (k := k + 1) (by omega) h.1).2; rw [HB.out] at this; exact this)))
        go_wp2
        go_ret3
        exact ret_dec HBD.out rfl
    · obtain rfl : k = 3 := by omega
      have hG := HD.out P (by rw [hP.out, HA.out]; rfl)
      have hI := fun W => isPoint_any (P : Int) W
      rw [isPt_nat] at hI
      have HC := Lib.hid hC.out
      clear hP hC
      by_cases hpt : Pt P
      · rw [decide_eq_true hpt] at hI
        have hS := fun W h => sizeOf_any P W hpt.1 h
        have HI := Lib.hid hI; have HS := Lib.hid hS; have HT2 := Lib.hid (HT.out.dN m1)
        clear hI hS
        by_cases hen : en P = 4
        · have HE := Lib.hid (hG.1 ⟨HC.out, hpt, hen⟩)
          rw [hen] at HS
          clear hG hpt hen
          go_wp2_with (first | (go_at_call 30; refine (HI.out _).mono ?_; rintro e w' ⟨rfl, rfl⟩) | (go_at_call 31; refine (HS.out _ HT2.out).mono ?_; rintro e w' ⟨rfl, rfl⟩))
          go_ret3
          exact ret_dec HE.out rfl
        · have HE := Lib.hid (hG.2 (fun h => hen h.2.2))
          have he1 : ((en P : Int) != 4) = true := by simp; omega
          have he2 : ¬ (en P : Int) = 4 := by omega
          clear hG hpt hen
          go_wp2_with (first | (go_at_call 30; refine (HI.out _).mono ?_; rintro e w' ⟨rfl, rfl⟩) | (go_at_call 31; refine (HS.out _ HT2.out).mono ?_; rintro e w' ⟨rfl, rfl⟩))
          go_ret3
          exact ret_dec HE.out rfl
      · rw [decide_eq_false hpt] at hI
        have HI := Lib.hid hI
        have HE := Lib.hid (hG.2 (fun h => hpt h.2.1))
        clear hI hG hpt
        go_wp2_with (go_at_call 30; refine (HI.out _).mono ?_; rintro e w' ⟨rfl, rfl⟩)
        go_ret3
        exact ret_dec HE.out rfl

theorem size0 {s : ByteArray} (h : s.size = 0) : s = ⟨#[]⟩ := by
  rcases s with ⟨⟨l⟩⟩
  have : l.length = 0 := h
  rw [List.length_eq_zero_iff.1 this]
theorem Decode_any (s : ByteArray) (w : World) (hs : s.size ≤ 140737488351232) (ht : Sh w) : Calls Tryz.prog 24 #[.string s] w (ResDec s w) := by
  rcases Nat.eq_zero_or_pos s.size with h0 | h0
  · rw [size0 h0]; exact Decode_nil w
  · by_cases hc : s.size < sf s[0].toNat
    · exact Decode_0 s w ht h0 (.inr hc)
    rcases sf_cases s[0].toNat with ⟨e, _⟩ | ⟨e, _⟩ | ⟨e, _⟩ | ⟨e, _⟩ | ⟨e, _⟩
    · exact Decode_1 s w hs ht h0 e (by omega)
    · exact Decode_2 s w hs ht h0 e (by omega)
    · exact Decode_3 s w hs ht h0 e (by omega)
    · exact Decode_4 s w hs ht h0 e (by omega)
    · exact Decode_0 s w ht h0 (.inl e)
end Go.Proofs.YtpgiljibicigeaaGreatDoor
