/- What quote's reader tells, as functions of the bytes and the place. Nothing of the program. -/
import Derived.Test.YtpgiljibicigeaaGreatDoorDecPas
import Derived.Test.YtpgiljibicigeaaGreatDoorProg
import Derived.Test.YtpgiljibicigeaaGreatDoorLimbLaws
import Derived.BigQuiet
import Derived.IntWalk
import Derived.Deep.QuietTactic
set_option linter.unusedVariables false
set_option linter.unusedSimpArgs false
namespace Go.Proofs.YtpgiljibicigeaaGreatDoor.QM
open Go.Proofs.YtpgiljibicigeaaGreatDoor.UM

/-- the next byte; -1 behind the last one -/
def pk (l : List Nat) (k : Nat) : Int := if k < l.length then ((l[k]?.getD 0 : Nat) : Int) else -1
/-- a hexadecimal digit's number -/
def dgv (c : Int) : Option Nat := if 48 ≤ c ∧ c ≤ 57 then some (c - 48).toNat else if 97 ≤ c ∧ c ≤ 102 then some (c - 87).toNat else if 65 ≤ c ∧ c ≤ 70 then some (c - 55).toNat else none
theorem dgv_lt {c : Int} {d : Nat} (h : dgv c = some d) : d < 16 := by
  unfold dgv at h
  repeat' split at h
  all_goals (cases h; try omega)
theorem dgv_pk {l : List Nat} {k d : Nat} (h : dgv (pk l k) = some d) : k < l.length := by
  unfold pk at h
  by_cases hk : k < l.length
  · exact hk
  · rw [if_neg hk, show dgv (-1) = none by decide] at h; cases h
def unitF (l : List Nat) : Nat → Nat → Nat → Int × Bool × Nat
  | 0, k, h => ((h : Int), true, k)
  | n + 1, k, h => match dgv (pk l k) with | none => (0, false, k) | some d => unitF l n (k + 1) (h * 16 + d)
def un (l : List Nat) (k : Nat) : Int × Bool × Nat := unitF l 4 k 0
def lowF (l : List Nat) (k : Nat) : Int × Bool × Nat :=
  if pk l k ≠ 92 then (0, false, k) else if pk l (k + 1) ≠ 117 then (0, false, k + 1) else
    ((un l (k + 2)).1, (un l (k + 2)).2.1 && decide (56320 ≤ (un l (k + 2)).1) && decide ((un l (k + 2)).1 ≤ 57343), (un l (k + 2)).2.2)
def codedF (l : List Nat) (k : Nat) : Int × Bool × Nat :=
  if (un l k).2.1 = false then (0, false, (un l k).2.2) else
  if (un l k).1 < 55296 ∨ 57343 < (un l k).1 then ((un l k).1, true, (un l k).2.2) else
  if 56320 ≤ (un l k).1 then (65533, true, (un l k).2.2) else
  if (lowF l (un l k).2.2).2.1 = true then (65536 + 1024 * ((un l k).1 - 55296) + (lowF l (un l k).2.2).1 - 56320, true, (lowF l (un l k).2.2).2.2) else (65533, true, (un l k).2.2)
def escF (l : List Nat) (k : Nat) : Int × Bool × Nat :=
  if pk l k = 34 ∨ pk l k = 92 ∨ pk l k = 47 then (pk l k, true, k + 1) else
  if pk l k = 98 then (8, true, k + 1) else if pk l k = 102 then (12, true, k + 1) else if pk l k = 110 then (10, true, k + 1) else
  if pk l k = 114 then (13, true, k + 1) else if pk l k = 116 then (9, true, k + 1) else if pk l k = 117 then codedF l (k + 1) else (0, false, k)
def cutB (r : List Nat) : Bool := (dcd (r ++ [128, 128, 128])).2.2 || (dcd (r ++ [191, 191, 191])).2.2
def pointF (l : List Nat) (k : Nat) : Int × Bool × Nat :=
  if (dcd ((l.drop k).take 4)).2.2 = true then (((dcd ((l.drop k).take 4)).1 : Nat), true, k + (dcd ((l.drop k).take 4)).2.1) else
  if cutB ((l.drop k).take 4) = true then (0, false, l.length) else (0, false, k)
def pieceF (l : List Nat) (k : Nat) : Int × Bool × Nat :=
  if pk l k < 32 then (0, false, k) else if 127 < pk l k then pointF l k else if pk l k = 92 then escF l (k + 1) else (pk l k, true, k + 1)
def faultF (l : List Nat) (k : Nat) : Nat := if pk l k = -1 then 5 else if 127 < pk l k then 7 else 2
theorem unitF_lt {l : List Nat} : ∀ {n k h : Nat}, h < 16 ^ (4 - n) → n ≤ 4 → 0 ≤ (unitF l n k h).1 ∧ (unitF l n k h).1 < 65536 := by
  intro n
  induction n with
  | zero => intro k h hh _; simp [unitF]; have : h < 65536 := hh; omega
  | succ n ih =>
    intro k h hh hn
    simp only [unitF]
    split
    · simp
    · rename_i d hd
      have h16 := dgv_lt hd
      refine ih ?_ (by omega)
      rw [show 4 - n = (4 - (n + 1)) + 1 by omega, Nat.pow_succ]
      omega
theorem un_lt (l : List Nat) (k : Nat) : 0 ≤ (un l k).1 ∧ (un l k).1 < 65536 := unitF_lt (by decide) (by decide)
theorem unitF_at {l : List Nat} : ∀ {n k h : Nat}, k ≤ l.length → k ≤ (unitF l n k h).2.2 ∧ (unitF l n k h).2.2 ≤ l.length := by
  intro n
  induction n with
  | zero => intro k h hk; exact ⟨Nat.le_refl _, hk⟩
  | succ n ih =>
    intro k h hk
    simp only [unitF]
    split
    · exact ⟨Nat.le_refl _, hk⟩
    · rename_i d hd
      have h1 := dgv_pk hd
      have h2 := ih (k := k + 1) (h := h * 16 + d) (by omega)
      exact ⟨by omega, h2.2⟩
theorem pk_pos {l : List Nat} {k : Nat} (h : pk l k ≠ -1) : k < l.length := by
  unfold pk at h
  by_cases hk : k < l.length
  · exact hk
  · rw [if_neg hk] at h; exact absurd rfl h
end Go.Proofs.YtpgiljibicigeaaGreatDoor.QM

/- The model's decoding of a text's bytes is the document's. Nothing of the program. -/
set_option linter.unusedSimpArgs false
namespace Go.Proofs.YtpgiljibicigeaaGreatDoor
open Go.RowKit UM

/-- a text's bytes -/
def bl (s : ByteArray) : List Nat := s.data.toList.map (fun (b : UInt8) => b.toNat)
theorem bl_len (s : ByteArray) : (bl s).length = s.size := by unfold bl; rw [List.length_map]; exact Array.length_toList
theorem bl_lo (s : ByteArray) : ∀ x ∈ bl s, x < 256 := by
  intro x hx
  unfold bl at hx
  obtain ⟨b, _, rfl⟩ := List.mem_map.1 hx
  exact b.toNat_lt
theorem bl_get (s : ByteArray) (j : Nat) (h : j < s.size) : (bl s)[j]?.getD 0 = s[j].toNat := by
  have h2 : j < s.data.toList.length := by rw [Array.length_toList]; exact h
  simp only [bl, List.getElem?_map, List.getElem?_eq_getElem h2, Option.map_some, Option.getD_some]
  rfl
theorem bl_inj {s t : ByteArray} (h : bl s = bl t) : s = t := by
  have h1 : s.data.toList = t.data.toList := by
    unfold bl at h
    exact List.map_inj_right (fun a b hab => UInt8.toNat_inj.1 hab) |>.1 h
  rcases s with ⟨⟨a⟩⟩; rcases t with ⟨⟨b⟩⟩
  simp only at h1; rw [h1]
theorem get_bang (s : ByteArray) (j : Nat) : (s.get! j).toNat = (bl s)[j]?.getD 0 := by
  rcases Nat.lt_or_ge j s.size with h | h
  · rw [bl_get s j h]
    show (s.data[j]!).toNat = _
    rw [getElem!_pos s.data j h]; rfl
  · have h2 : (bl s)[j]? = none := List.getElem?_eq_none (by rw [bl_len]; exact h)
    rw [h2]
    show (s.data[j]!).toNat = _
    rw [getElem!_neg s.data j (Nat.not_lt.2 h)]; rfl

def decL (L : List Nat) : Nat × Nat :=
  let at' (k : Nat) : Nat := L[k]?.getD 0
  let cont (k : Nat) : Bool := decide (k < L.length) && at' k / 64 == 2
  let b0 := at' 0
  if b0 < 0x80 then (b0, 1)
  else if b0 / 32 == 6 && cont 1 then
    let c := (b0 % 32) * 64 + at' 1 % 64
    if c ≥ 0x80 then (c, 2) else (65533, 1)
  else if b0 / 16 == 14 && cont 1 && cont 2 then
    let c := (b0 % 16) * 4096 + (at' 1 % 64) * 64 + at' 2 % 64
    if c ≥ 0x800 && Utf8.valid c then (c, 3) else (65533, 1)
  else if b0 / 8 == 30 && cont 1 && cont 2 && cont 3 then
    let c := (b0 % 8) * 262144 + (at' 1 % 64) * 4096 + (at' 2 % 64) * 64 + at' 3 % 64
    if c ≥ 0x10000 && Utf8.valid c then (c, 4) else (65533, 1)
  else (65533, 1)
theorem decode_decL (s : ByteArray) (pos : Nat) : Utf8.decode s pos = decL ((bl s).drop pos) := by
  have h1 : ∀ k, (s.get! (pos + k)).toNat = ((bl s).drop pos)[k]?.getD 0 := fun k => by rw [get_bang, List.getElem?_drop]
  have h2 : ∀ k, decide (pos + k < s.size) = decide (k < ((bl s).drop pos).length) := fun k => by
    rw [List.length_drop, bl_len]; congr 1; exact propext ⟨fun _ => by omega, fun _ => by omega⟩
  simp only [Utf8.decode, decL, h1, h2, Utf8.runeError]
theorem valid_pt (c : Nat) : Utf8.valid (c : Int) = decide (Pt c) := by
  rw [Bool.eq_iff_iff, decide_eq_true_iff]
  unfold Utf8.valid Pt
  simp only [Bool.or_eq_true, Bool.and_eq_true, decide_eq_true_eq]
  omega
theorem decL_dcd {L : List Nat} (hl : L ≠ []) : decL L = ((dcd L).1, (dcd L).2.1) := by
  rcases L with _ | ⟨a, t⟩
  · exact absurd rfl hl
  by_cases c1 : a < 128
  · simp [decL, dcd, c1]
  by_cases c2 : a / 32 = 6
  · have n3 : ¬ a / 16 = 14 := by omega
    have n4 : ¬ a / 8 = 30 := by omega
    rcases t with _ | ⟨b, t⟩
    · simp [decL, dcd, c1, c2, n3, n4, bad]
    by_cases g : b / 64 = 2
    · by_cases k : 128 ≤ a % 32 * 64 + b % 64 <;> simp [decL, dcd, c1, c2, n3, n4, bad, g, k]
    · simp [decL, dcd, c1, c2, n3, n4, bad, g]
  by_cases c3 : a / 16 = 14
  · have n4 : ¬ a / 8 = 30 := by omega
    rcases t with _ | ⟨b, _ | ⟨c, t⟩⟩
    · simp [decL, dcd, c1, c2, c3, n4, bad]
    · simp [decL, dcd, c1, c2, c3, n4, bad]
    by_cases g : b / 64 = 2
    · by_cases g2 : c / 64 = 2
      · have hv := valid_pt (a % 16 * 4096 + b % 64 * 64 + c % 64)
        by_cases k : 2048 ≤ a % 16 * 4096 + b % 64 * 64 + c % 64 <;> by_cases k2 : Pt (a % 16 * 4096 + b % 64 * 64 + c % 64) <;> simp only [k2] at hv <;> simp [decL, dcd, c1, c2, c3, n4, bad, g, g2, k, k2] <;> simp_all
      · simp [decL, dcd, c1, c2, c3, n4, bad, g, g2]
    · simp [decL, dcd, c1, c2, c3, n4, bad, g]
  by_cases c4 : a / 8 = 30
  · rcases t with _ | ⟨b, _ | ⟨c, _ | ⟨d, t⟩⟩⟩
    · simp [decL, dcd, c1, c2, c3, c4, bad]
    · simp [decL, dcd, c1, c2, c3, c4, bad]
    · simp [decL, dcd, c1, c2, c3, c4, bad]
    by_cases g : b / 64 = 2
    · by_cases g2 : c / 64 = 2
      · by_cases g3 : d / 64 = 2
        · have hv := valid_pt (a % 8 * 262144 + b % 64 * 4096 + c % 64 * 64 + d % 64)
          by_cases k : 65536 ≤ a % 8 * 262144 + b % 64 * 4096 + c % 64 * 64 + d % 64 <;> by_cases k2 : Pt (a % 8 * 262144 + b % 64 * 4096 + c % 64 * 64 + d % 64) <;> simp only [k2] at hv <;> simp [decL, dcd, c1, c2, c3, c4, bad, g, g2, g3, k, k2] <;> simp_all
        · simp [decL, dcd, c1, c2, c3, c4, bad, g, g2, g3]
      · simp [decL, dcd, c1, c2, c3, c4, bad, g, g2]
    · simp [decL, dcd, c1, c2, c3, c4, bad, g]
  · simp [decL, dcd, c1, c2, c3, c4, bad]
theorem decode_dcd (s : ByteArray) (pos : Nat) (h : pos < s.size) : Utf8.decode s pos = ((dcd ((bl s).drop pos)).1, (dcd ((bl s).drop pos)).2.1) := by
  rw [decode_decL]
  refine decL_dcd fun e => ?_
  have := congrArg List.length e
  simp only [List.length_drop, bl_len, List.length_nil] at this; omega
end Go.Proofs.YtpgiljibicigeaaGreatDoor

/- The table of shapes; sizeFromFirst, isPoint, sizeOf. -/
namespace Go.Proofs.YtpgiljibicigeaaGreatDoor
open Go.RowKit UM

/-- the table holds the four shapes -/
def Sh (w : World) : Prop :=
  w.cell? ⟨0, 0, none⟩ = some (.int .i64 127) ∧ w.cell? ⟨0, 1, none⟩ = some (.int .u8 0) ∧ w.cell? ⟨0, 2, none⟩ = some (.int .u8 127) ∧
  w.cell? ⟨0, 3, none⟩ = some (.int .i64 2047) ∧ w.cell? ⟨0, 4, none⟩ = some (.int .u8 192) ∧ w.cell? ⟨0, 5, none⟩ = some (.int .u8 31) ∧
  w.cell? ⟨0, 6, none⟩ = some (.int .i64 65535) ∧ w.cell? ⟨0, 7, none⟩ = some (.int .u8 224) ∧ w.cell? ⟨0, 8, none⟩ = some (.int .u8 15) ∧
  w.cell? ⟨0, 9, none⟩ = some (.int .i64 1114111) ∧ w.cell? ⟨0, 10, none⟩ = some (.int .u8 240) ∧ w.cell? ⟨0, 11, none⟩ = some (.int .u8 7)
theorem keepC {w w' : World} {p : Addr} {v : Value} (h : w.cell? p = some v) (hb : Below w.heap.size w w') : w'.cell? p = some v := by rw [hb.cell (lt_of_cell h)]; exact h
theorem Sh.below {w w' : World} (h : Sh w) (hb : Below w.heap.size w w') : Sh w' := by
  obtain ⟨a, b, c, d, e, f, g, h, i, j, k, l⟩ := h
  exact ⟨keepC a hb, keepC b hb, keepC c hb, keepC d hb, keepC e hb, keepC f hb, keepC g hb, keepC h hb, keepC i hb, keepC j hb, keepC k hb, keepC l hb⟩
theorem Sh.dN {w : World} (h : Sh w) (n : Nat) : Sh (w.drewN n) := h

/-- how many bytes a first byte asks for -/
def sf (c : Nat) : Nat := if c < 128 then 1 else if c / 32 = 6 then 2 else if c / 16 = 14 then 3 else if c / 8 = 30 then 4 else 0

def isPt (p : Int) : Bool := decide (0 ≤ p ∧ p ≤ 1114111 ∧ (p < 55296 ∨ 57343 < p))
theorem isPoint_any (p : Int) (w : World) : Calls Tryz.prog 30 #[.int .i64 p] w fun e w' => e = .returned (.bool (isPt p)) ∧ w = w' := by
  by_cases h1 : 0 ≤ p
  · by_cases h2 : p ≤ 1114111
    · by_cases h3 : p < 55296
      · rw [show isPt p = true from decide_eq_true (by omega)]
        go_enter Tryz.func30, Tryz.ntmps30
        go_wp2
        go_ret
        exact ⟨rfl, rfl⟩
      · by_cases h4 : 57343 < p
        · rw [show isPt p = true from decide_eq_true (by omega)]
          go_enter Tryz.func30, Tryz.ntmps30
          go_wp2
          go_ret
          exact ⟨rfl, rfl⟩
        · rw [show isPt p = false from decide_eq_false (by omega)]
          go_enter Tryz.func30, Tryz.ntmps30
          go_wp2
          go_ret
          exact ⟨rfl, rfl⟩
    · rw [show isPt p = false from decide_eq_false (by omega)]
      go_enter Tryz.func30, Tryz.ntmps30
      go_wp2
      go_ret
      exact ⟨rfl, rfl⟩
  · rw [show isPt p = false from decide_eq_false (by omega)]
    go_enter Tryz.func30, Tryz.ntmps30
    go_wp2
    go_ret
    exact ⟨rfl, rfl⟩

def SzRel (p : Nat) (n : Value) : Prop := n = .int .i64 1 ∨ (n = .int .i64 2 ∧ 127 < p) ∨ (n = .int .i64 3 ∧ 2047 < p) ∨ (n = .int .i64 4 ∧ 65535 < p)
theorem sizeOf_any (p : Nat) (w : World) (hp : p ≤ 1114111) (ht : Sh w) : Calls Tryz.prog 31 #[.int .i64 p] w fun e w' => e = .returned (.int .i64 (en p)) ∧ w = w' := by
  obtain ⟨k0, k1, k2, k3, k4, k5, k6, k7, k8, k9, k10, k11⟩ := ht
  go_enter Tryz.func31, Tryz.ntmps31
  go_wp2
  go_loop [3] (fun n => SzRel p n) (fun n => 4 - (intOf n).toNat)
  case atStart => exact .inl rfl
  case round =>
    rcases hrel with rfl | ⟨rfl, h⟩ | ⟨rfl, h⟩ | ⟨rfl, h⟩
    · by_cases c : p ≤ 127
      · go_wp2
        go_ret
        exact ⟨ret_int (by rw [show en p = 1 by unfold en; rw [if_pos (by omega)]]; rfl), rfl⟩
      · go_wp2
        go_round
        case rel => exact .inr (.inl ⟨rfl, by omega⟩)
        case measure => simp [intOf]
    · by_cases c : p ≤ 2047
      · go_wp2
        go_ret
        exact ⟨ret_int (by rw [show en p = 2 by unfold en; rw [if_neg (by omega), if_pos (by omega)]]; rfl), rfl⟩
      · go_wp2
        go_round
        case rel => exact .inr (.inr (.inl ⟨rfl, by omega⟩))
        case measure => simp [intOf]
    · by_cases c : p ≤ 65535
      · go_wp2
        go_ret
        exact ⟨ret_int (by rw [show en p = 3 by unfold en; rw [if_neg (by omega), if_neg (by omega), if_pos (by omega)]]; rfl), rfl⟩
      · go_wp2
        go_round
        case rel => exact .inr (.inr (.inr ⟨rfl, by omega⟩))
        case measure => simp [intOf]
    · go_wp2
      go_ret
      exact ⟨ret_int (by rw [show en p = 4 by unfold en; rw [if_neg (by omega), if_neg (by omega), if_neg (by omega)]]; rfl), rfl⟩

def SfRel (c : Nat) (w : World) (i : Value) (w' : World) : Prop := (∃ n, w' = w.drewN n) ∧ (i = .int .i64 0 ∨ (i = .int .i64 1 ∧ ¬ c < 128) ∨ (i = .int .i64 2 ∧ ¬ c < 128 ∧ ¬ c / 32 = 6) ∨ (i = .int .i64 3 ∧ ¬ c < 128 ∧ ¬ c / 32 = 6 ∧ ¬ c / 16 = 14) ∨ (i = .int .i64 4 ∧ ¬ c < 128 ∧ ¬ c / 32 = 6 ∧ ¬ c / 16 = 14 ∧ ¬ c / 8 = 30))
theorem an127 : ∀ c : Fin 256, (bits BinOp.andNot IntKind.u8 (c.val : Int) 127 == 0) = decide (c.val < 128) := by decide +kernel
theorem an31 : ∀ c : Fin 256, (bits BinOp.andNot IntKind.u8 (c.val : Int) 31 == 192) = decide (c.val / 32 = 6) := by decide +kernel
theorem an15 : ∀ c : Fin 256, (bits BinOp.andNot IntKind.u8 (c.val : Int) 15 == 224) = decide (c.val / 16 = 14) := by decide +kernel
theorem an7 : ∀ c : Fin 256, (bits BinOp.andNot IntKind.u8 (c.val : Int) 7 == 240) = decide (c.val / 8 = 30) := by decide +kernel
set_option maxHeartbeats 4000000 in
theorem sizeFromFirst_any (c : Nat) (w : World) (hc : c < 256) (ht : Sh w) : Calls Tryz.prog 29 #[.int .u8 c] w fun e w' => e = .returned (.int .i64 (sf c)) ∧ ∃ n, w' = w.drewN n := by
  have a0 := an127 ⟨c, hc⟩
  have a1 := an31 ⟨c, hc⟩
  have a2 := an15 ⟨c, hc⟩
  have a3 := an7 ⟨c, hc⟩
  simp only at a0 a1 a2 a3
  have A0 := Lib.hid a0; have A1 := Lib.hid a1; have A2 := Lib.hid a2; have A3 := Lib.hid a3
  clear a0 a1 a2 a3
  go_enter Tryz.func29, Tryz.ntmps29
  go_wp2
  go_loopw [4] (fun i w' => SfRel c w i w') (fun i _ => 4 - (intOf i).toNat)
  case atStart => exact ⟨⟨0, rfl⟩, .inl rfl⟩
  case round =>
    obtain ⟨⟨n, hw⟩, hrel⟩ := hrel
    obtain ⟨k0, k1, k2, k3, k4, k5, k6, k7, k8, k9, k10, k11⟩ := ht.dN n
    rw [← hw] at k0 k1 k2 k3 k4 k5 k6 k7 k8 k9 k10 k11
    have HW := Lib.hid hw
    clear hw
    rcases hrel with rfl | ⟨rfl, h⟩ | ⟨rfl, h⟩ | ⟨rfl, h⟩ | ⟨rfl, h⟩
    · by_cases d : c < 128
      · have t := A0.out; rw [decide_eq_true d] at t
        have HH : Hid (sf c = 1) := Lib.hid (by unfold sf; rw [if_pos d])
        go_wp2
        go_quiet (fail)
        go_wp2
        go_ret
        exact ⟨ret_int (by rw [HH.out]; rfl), n + nq, by rw [HW.out, World.drewN_drewN]⟩
      · have t := A0.out; rw [decide_eq_false d] at t
        go_wp2
        go_quiet (fail)
        go_wp2
        go_roundw
        case rel => exact ⟨⟨n + nq, by rw [HW.out, World.drewN_drewN]⟩, .inr (.inl ⟨rfl, d⟩)⟩
        case measure => simp [intOf]
    · by_cases d : c / 32 = 6
      · have t := A1.out; rw [decide_eq_true d] at t
        have HH : Hid (sf c = 2) := Lib.hid (by unfold sf; rw [if_neg h, if_pos d])
        go_wp2
        go_quiet (fail)
        go_wp2
        go_ret
        exact ⟨ret_int (by rw [HH.out]; rfl), n + nq, by rw [HW.out, World.drewN_drewN]⟩
      · have t := A1.out; rw [decide_eq_false d] at t
        go_wp2
        go_quiet (fail)
        go_wp2
        go_roundw
        case rel => exact ⟨⟨n + nq, by rw [HW.out, World.drewN_drewN]⟩, .inr (.inr (.inl ⟨rfl, h, d⟩))⟩
        case measure => simp [intOf]
    · by_cases d : c / 16 = 14
      · have t := A2.out; rw [decide_eq_true d] at t
        have HH : Hid (sf c = 3) := Lib.hid (by unfold sf; rw [if_neg h.1, if_neg h.2, if_pos d])
        go_wp2
        go_quiet (fail)
        go_wp2
        go_ret
        exact ⟨ret_int (by rw [HH.out]; rfl), n + nq, by rw [HW.out, World.drewN_drewN]⟩
      · have t := A2.out; rw [decide_eq_false d] at t
        go_wp2
        go_quiet (fail)
        go_wp2
        go_roundw
        case rel => exact ⟨⟨n + nq, by rw [HW.out, World.drewN_drewN]⟩, .inr (.inr (.inr (.inl ⟨rfl, h.1, h.2, d⟩)))⟩
        case measure => simp [intOf]
    · by_cases d : c / 8 = 30
      · have t := A3.out; rw [decide_eq_true d] at t
        have HH : Hid (sf c = 4) := Lib.hid (by unfold sf; rw [if_neg h.1, if_neg h.2.1, if_neg h.2.2, if_pos d])
        go_wp2
        go_quiet (fail)
        go_wp2
        go_ret
        exact ⟨ret_int (by rw [HH.out]; rfl), n + nq, by rw [HW.out, World.drewN_drewN]⟩
      · have t := A3.out; rw [decide_eq_false d] at t
        go_wp2
        go_quiet (fail)
        go_wp2
        go_roundw
        case rel => exact ⟨⟨n + nq, by rw [HW.out, World.drewN_drewN]⟩, .inr (.inr (.inr (.inr ⟨rfl, h.1, h.2.1, h.2.2, d⟩)))⟩
        case measure => simp [intOf]
    · have HH : Hid (sf c = 0) := Lib.hid (by unfold sf; rw [if_neg h.1, if_neg h.2.1, if_neg h.2.2.1, if_neg h.2.2.2])
      go_wp2
      go_ret
      exact ⟨ret_int (by rw [HH.out]; rfl), n, by rw [HW.out]⟩
end Go.Proofs.YtpgiljibicigeaaGreatDoor
