/- The table of shapes; sizeFromFirst, isPoint, sizeOf. -/
import Derived.Test.YtpgiljibicigeaaGreatDoorProg
import Derived.Test.YtpgiljibicigeaaGreatDoorUtfMaths
import Derived.Test.YtpgiljibicigeaaGreatDoorLimbKits
import Derived.BigQuiet
import Derived.IntWalk
import Derived.Deep.QuietTactic
set_option linter.unusedVariables false
set_option linter.unusedSimpArgs false
namespace Go.Proofs.YtpgiljibicigeaaGreatDoor
open Go.RowKit UM

/-- the table holds the four shapes -/
def Sh (w : World) : Prop :=
  w.cell? ⟨0, 0, none⟩ = some (.int .i64 127) ∧ w.cell? ⟨0, 1, none⟩ = some (.int .u8 0) ∧ w.cell? ⟨0, 2, none⟩ = some (.int .u8 127) ∧
  w.cell? ⟨0, 3, none⟩ = some (.int .i64 2047) ∧ w.cell? ⟨0, 4, none⟩ = some (.int .u8 192) ∧ w.cell? ⟨0, 5, none⟩ = some (.int .u8 31) ∧
  w.cell? ⟨0, 6, none⟩ = some (.int .i64 65535) ∧ w.cell? ⟨0, 7, none⟩ = some (.int .u8 224) ∧ w.cell? ⟨0, 8, none⟩ = some (.int .u8 15) ∧
  w.cell? ⟨0, 9, none⟩ = some (.int .i64 1114111) ∧ w.cell? ⟨0, 10, none⟩ = some (.int .u8 240) ∧ w.cell? ⟨0, 11, none⟩ = some (.int .u8 7)
theorem keepC {w w' : World} {p : Addr} {v : Value} (h : w.cell? p = some v) (hb : Below w.heap.size w w') : w'.cell? p = some v := by rw [hb.cell (lt_of_cell h)]; exact h
theorem Sh.below {w w' : World} (h : Sh w) (hb : Below w.heap.size w w') : Sh w' := by
  obtain ⟨a, b, c, d, e, f, g, h, i, j, k, l⟩ := h
  exact ⟨keepC a hb, keepC b hb, keepC c hb, keepC d hb, keepC e hb, keepC f hb, keepC g hb, keepC h hb, keepC i hb, keepC j hb, keepC k hb, keepC l hb⟩
theorem Sh.dN {w : World} (h : Sh w) (n : Nat) : Sh (w.drewN n) := h

/-- how many bytes a first byte asks for -/
def sf (c : Nat) : Nat := if c < 128 then 1 else if c / 32 = 6 then 2 else if c / 16 = 14 then 3 else if c / 8 = 30 then 4 else 0

def isPt (p : Int) : Bool := decide (0 ≤ p ∧ p ≤ 1114111 ∧ (p < 55296 ∨ 57343 < p))
theorem isPoint_any (p : Int) (w : World) : Calls Tryz.prog 30 #[.int .i64 p] w fun e w' => e = .returned (.bool (isPt p)) ∧ w = w' := by
  by_cases h1 : 0 ≤ p
  · by_cases h2 : p ≤ 1114111
    · by_cases h3 : p < 55296
      · rw [show isPt p = true from decide_eq_true (by omega)]
        go_enter Tryz.func30, Tryz.ntmps30
        go_wp2
        go_ret
        exact ⟨rfl, rfl⟩
      · by_cases h4 : 57343 < p
        · rw [show isPt p = true from decide_eq_true (by omega)]
          go_enter Tryz.func30, Tryz.ntmps30
          go_wp2
          go_ret
          exact ⟨rfl, rfl⟩
        · rw [show isPt p = false from decide_eq_false (by omega)]
          go_enter Tryz.func30, Tryz.ntmps30
          go_wp2
          go_ret
          exact ⟨rfl, rfl⟩
    · rw [show isPt p = false from decide_eq_false (by omega)]
      go_enter Tryz.func30, Tryz.ntmps30
      go_wp2
      go_ret
      exact ⟨rfl, rfl⟩
  · rw [show isPt p = false from decide_eq_false (by omega)]
    go_enter Tryz.func30, Tryz.ntmps30
    go_wp2
    go_ret
    exact ⟨rfl, rfl⟩

def SzRel (p : Nat) (n : Value) : Prop := n = .int .i64 1 ∨ (n = .int .i64 2 ∧ 127 < p) ∨ (n = .int .i64 3 ∧ 2047 < p) ∨ (n = .int .i64 4 ∧ 65535 < p)
theorem sizeOf_any (p : Nat) (w : World) (hp : p ≤ 1114111) (ht : Sh w) : Calls Tryz.prog 31 #[.int .i64 p] w fun e w' => e = .returned (.int .i64 (en p)) ∧ w = w' := by
  obtain ⟨k0, k1, k2, k3, k4, k5, k6, k7, k8, k9, k10, k11⟩ := ht
  go_enter Tryz.func31, Tryz.ntmps31
  go_wp2
  go_loop [3] (fun n => SzRel p n) (fun n => 4 - (intOf n).toNat)
  case atStart => exact .inl rfl
  case round =>
    rcases hrel with rfl | ⟨rfl, h⟩ | ⟨rfl, h⟩ | ⟨rfl, h⟩
    · by_cases c : p ≤ 127
      · go_wp2
        go_ret
        exact ⟨ret_int (by rw [show en p = 1 by unfold en; rw [if_pos (by omega)]]; rfl), rfl⟩
      · go_wp2
        go_round
        case rel => exact .inr (.inl ⟨rfl, by omega⟩)
        case measure => simp [intOf]
    · by_cases c : p ≤ 2047
      · go_wp2
        go_ret
        exact ⟨ret_int (by rw [show en p = 2 by unfold en; rw [if_neg (by omega), if_pos (by omega)]]; rfl), rfl⟩
      · go_wp2
        go_round
        case rel => exact .inr (.inr (.inl ⟨rfl, by omega⟩))
        case measure => simp [intOf]
    · by_cases c : p ≤ 65535
      · go_wp2
        go_ret
        exact ⟨ret_int (by rw [show en p = 3 by unfold en; rw [if_neg (by omega), if_neg (by omega), if_pos (by omega)]]; rfl), rfl⟩
      · go_wp2
        go_round
        case rel => exact .inr (.inr (.inr ⟨rfl, by omega⟩))
        case measure => simp [intOf]
    · go_wp2
      go_ret
      exact ⟨ret_int (by rw [show en p = 4 by unfold en; rw [if_neg (by omega), if_neg (by omega), if_neg (by omega)]]; rfl), rfl⟩

def SfRel (c : Nat) (w : World) (i : Value) (w' : World) : Prop := (∃ n, w' = w.drewN n) ∧ (i = .int .i64 0 ∨ (i = .int .i64 1 ∧ ¬ c < 128) ∨ (i = .int .i64 2 ∧ ¬ c < 128 ∧ ¬ c / 32 = 6) ∨ (i = .int .i64 3 ∧ ¬ c < 128 ∧ ¬ c / 32 = 6 ∧ ¬ c / 16 = 14) ∨ (i = .int .i64 4 ∧ ¬ c < 128 ∧ ¬ c / 32 = 6 ∧ ¬ c / 16 = 14 ∧ ¬ c / 8 = 30))
theorem an127 : ∀ c : Fin 256, (bits BinOp.andNot IntKind.u8 (c.val : Int) 127 == 0) = decide (c.val < 128) := by decide +kernel
theorem an31 : ∀ c : Fin 256, (bits BinOp.andNot IntKind.u8 (c.val : Int) 31 == 192) = decide (c.val / 32 = 6) := by decide +kernel
theorem an15 : ∀ c : Fin 256, (bits BinOp.andNot IntKind.u8 (c.val : Int) 15 == 224) = decide (c.val / 16 = 14) := by decide +kernel
theorem an7 : ∀ c : Fin 256, (bits BinOp.andNot IntKind.u8 (c.val : Int) 7 == 240) = decide (c.val / 8 = 30) := by decide +kernel
set_option maxHeartbeats 4000000 in
theorem sizeFromFirst_any (c : Nat) (w : World) (hc : c < 256) (ht : Sh w) : Calls Tryz.prog 29 #[.int .u8 c] w fun e w' => e = .returned (.int .i64 (sf c)) ∧ ∃ n, w' = w.drewN n := by
  have a0 := an127 ⟨c, hc⟩
  have a1 := an31 ⟨c, hc⟩
  have a2 := an15 ⟨c, hc⟩
  have a3 := an7 ⟨c, hc⟩
  simp only at a0 a1 a2 a3
  have A0 := Lib.hid a0; have A1 := Lib.hid a1; have A2 := Lib.hid a2; have A3 := Lib.hid a3
  clear a0 a1 a2 a3
  go_enter Tryz.func29, Tryz.ntmps29
  go_wp2
  go_loopw [4] (fun i w' => SfRel c w i w') (fun i _ => 4 - (intOf i).toNat)
  case atStart => exact ⟨⟨0, rfl⟩, .inl rfl⟩
  case round =>
    obtain ⟨⟨n, hw⟩, hrel⟩ := hrel
    obtain ⟨k0, k1, k2, k3, k4, k5, k6, k7, k8, k9, k10, k11⟩ := ht.dN n
    rw [← hw] at k0 k1 k2 k3 k4 k5 k6 k7 k8 k9 k10 k11
    have HW := Lib.hid hw
    clear hw
    rcases hrel with rfl | ⟨rfl, h⟩ | ⟨rfl, h⟩ | ⟨rfl, h⟩ | ⟨rfl, h⟩
    · by_cases d : c < 128
      · have t := A0.out; rw [decide_eq_true d] at t
        have HH : Hid (sf c = 1) := Lib.hid (by unfold sf; rw [if_pos d])
        go_wp2
        go_quiet (fail)
        go_wp2
        go_ret
        exact ⟨ret_int (by rw [HH.out]; rfl), n + nq, by rw [HW.out, World.drewN_drewN]⟩
      · have t := A0.out; rw [decide_eq_false d] at t
        go_wp2
        go_quiet (fail)
        go_wp2
        go_roundw
        case rel => exact ⟨⟨n + nq, by rw [HW.out, World.drewN_drewN]⟩, .inr (.inl ⟨rfl, d⟩)⟩
        case measure => simp [intOf]
    · by_cases d : c / 32 = 6
      · have t := A1.out; rw [decide_eq_true d] at t
        have HH : Hid (sf c = 2) := Lib.hid (by unfold sf; rw [if_neg h, if_pos d])
        go_wp2
        go_quiet (fail)
        go_wp2
        go_ret
        exact ⟨ret_int (by rw [HH.out]; rfl), n + nq, by rw [HW.out, World.drewN_drewN]⟩
      · have t := A1.out; rw [decide_eq_false d] at t
        go_wp2
        go_quiet (fail)
        go_wp2
        go_roundw
        case rel => exact ⟨⟨n + nq, by rw [HW.out, World.drewN_drewN]⟩, .inr (.inr (.inl ⟨rfl, h, d⟩))⟩
        case measure => simp [intOf]
    · by_cases d : c / 16 = 14
      · have t := A2.out; rw [decide_eq_true d] at t
        have HH : Hid (sf c = 3) := Lib.hid (by unfold sf; rw [if_neg h.1, if_neg h.2, if_pos d])
        go_wp2
        go_quiet (fail)
        go_wp2
        go_ret
        exact ⟨ret_int (by rw [HH.out]; rfl), n + nq, by rw [HW.out, World.drewN_drewN]⟩
      · have t := A2.out; rw [decide_eq_false d] at t
        go_wp2
        go_quiet (fail)
        go_wp2
        go_roundw
        case rel => exact ⟨⟨n + nq, by rw [HW.out, World.drewN_drewN]⟩, .inr (.inr (.inr (.inl ⟨rfl, h.1, h.2, d⟩)))⟩
        case measure => simp [intOf]
    · by_cases d : c / 8 = 30
      · have t := A3.out; rw [decide_eq_true d] at t
        have HH : Hid (sf c = 4) := Lib.hid (by unfold sf; rw [if_neg h.1, if_neg h.2.1, if_neg h.2.2, if_pos d])
        go_wp2
        go_quiet (fail)
        go_wp2
        go_ret
        exact ⟨ret_int (by rw [HH.out]; rfl), n + nq, by rw [HW.out, World.drewN_drewN]⟩
      · have t := A3.out; rw [decide_eq_false d] at t
        go_wp2
        go_quiet (fail)
        go_wp2
        go_roundw
        case rel => exact ⟨⟨n + nq, by rw [HW.out, World.drewN_drewN]⟩, .inr (.inr (.inr (.inr ⟨rfl, h.1, h.2.1, h.2.2, d⟩)))⟩
        case measure => simp [intOf]
    · have HH : Hid (sf c = 0) := Lib.hid (by unfold sf; rw [if_neg h.1, if_neg h.2.1, if_neg h.2.2.1, if_neg h.2.2.2])
      go_wp2
      go_ret
      exact ⟨ret_int (by rw [HH.out]; rfl), n, by rw [HW.out]⟩
end Go.Proofs.YtpgiljibicigeaaGreatDoor
