/- Where bytes stand: walks of Bits and anyOf. -/
import Derived.Test.YtibgejndlllhfaaDoorBitA
import Derived.Test.YtibgejndlllhfaaDoorLimbKit
namespace Go.Proofs.YtibgejndlllhfaaDoor
open Go.RowKit BM

/-- byte i is c -/
def isAt (l : List Nat) (c : Nat) (i : Nat) : Bool := decide (l[i]?.getD 0 = c)
/-- the mask of the byte c among the first 64 -/
def bm (l : List Nat) (c : Nat) : BitVec 64 := mk (isAt l c) (min l.length 64)
theorem put_t {l : List Nat} {c j : Nat} (h : isAt l c j = true) : IntKind.u64.wrap (val (mk (isAt l c) j) + IntKind.u64.wrap (2 ^ j)) = val (mk (isAt l c) (j + 1)) := by
  rw [u_one, u_add]
  show val (mk (isAt l c) j + pw j) = val (mk (isAt l c) j + _)
  rw [if_pos h]; rfl
theorem put_f {l : List Nat} {c j : Nat} (h : isAt l c j = false) : val (mk (isAt l c) j) = val (mk (isAt l c) (j + 1)) := by
  show _ = val (mk (isAt l c) j + _)
  rw [if_neg (by rw [h]; decide)]; simp
theorem Rd.byte {w : World} {k : IntKind} {a : Option Addr} {l : List Nat} (h : Rd w k a l) (j : Nat) (hj : j < l.length) :
    ∃ b off x, a = some ⟨b, off, none⟩ ∧ Hid (l[j]?.getD 0 = x) ∧ w.cell? ⟨b, off + j, none⟩ = some (.int k (x : Int)) := by
  obtain ⟨b, off, e, hc⟩ := h j hj
  exact ⟨b, off, _, e, Lib.hid rfl, hc⟩
theorem isAt_is (l : List Nat) (c j : Nat) : (((l[j]?.getD 0 : Nat) : Int) == (c : Int)) = isAt l c j := by
  unfold isAt
  rw [Bool.eq_iff_iff, beq_iff_eq, decide_eq_true_iff]; omega

set_option maxRecDepth 100000 in
set_option maxHeartbeats 400000 in
theorem Bits_any (a : Option Addr) (cap : Nat) (l : List Nat) (c : Nat) (w : World) (hl : l.length ≤ 9223372036854775807) (hrd : Rd w .u8 a l) :
    Calls Tryd.prog 36 #[.slice a l.length cap, .int .u8 c] w fun e w' => e = .returned (.int .u64 (val (bm l c))) ∧ w = w' := by
  by_cases hm : l.length ≤ 64
  all_goals
    go_enter Tryd.func36, Tryd.ntmps36
    go_wp2
    go_loop [5, 6, 10] (fun v _ i => ∃ j : Nat, j ≤ min l.length 64 ∧ i = .int .i64 j ∧ v = .int .u64 (val (mk (isAt l c) j))) (fun _ _ i => 64 - (intOf i).toNat)
    case atStart => exact ⟨0, by omega, rfl, rfl⟩
    case round =>
      obtain ⟨j, hj, rfl, rfl⟩ := hrel
      by_cases hlt : j < min l.length 64
      · have hj1 : j < l.length := by omega
        have hj2 : j < 64 := by omega
        obtain ⟨b, off, x, ha, HX, hc⟩ := hrd.byte j (by omega)
        subst ha
        clear hlt
        cases hb : isAt l c j
        all_goals
          have HB := Lib.hid hb
          have ht := isAt_is l c j
          rw [hb, HX.out] at ht
          clear hb
          go_wp2
          go_round
          case rel => exact ⟨j + 1, by omega, by go_num, by first | rw [put_t HB.out] | rw [put_f HB.out]⟩
          case measure => simp [intOf]; omega
      · have hj1 : j = min l.length 64 := by omega
        have HJ := Lib.hid hj1
        have hj2 : ¬ (j < l.length ∧ j < 64) := by omega
        clear hj1 hlt
        have h3 : ¬ j < l.length ∨ ¬ j < 64 := by omega
        go_wp2
        go_ret
        exact ⟨ret_int (by rw [HJ.out]; rfl), rfl⟩

/-- any of the first k signs -/
def orTo (l : List Nat) (s : ByteArray) : Nat → BitVec 64
  | 0 => 0#64
  | k + 1 => orTo l s k ||| bm l ((s.data.toList[k]?.getD 0).toNat)
theorem orTo_step (l : List Nat) (s : ByteArray) (k : Nat) (h : k < s.size) : bits .or .u64 (val (orTo l s k)) (val (bm l s[k].toNat)) = val (orTo l s (k + 1)) := by
  rw [u_or]
  show _ = val (orTo l s k ||| bm l ((s.data.toList[k]?.getD 0).toNat))
  have : (s.data.toList[k]?.getD 0) = s[k] := by
    have h' : k < s.data.toList.length := by simpa using h
    rw [List.getElem?_eq_getElem h']; rfl
  rw [this]
set_option maxHeartbeats 400000 in
theorem anyOf_any (a : Option Addr) (cap : Nat) (l : List Nat) (s : ByteArray) (w : World) (hl : l.length ≤ 9223372036854775807) (hs : s.size ≤ 100) (hrd : Rd w .u8 a l) :
    Calls Tryd.prog 40 #[.slice a l.length cap, .string s] w fun e w' => e = .returned (.int .u64 (val (orTo l s s.size))) ∧ w = w' := by
  go_enter Tryd.func40, Tryd.ntmps40
  go_wp2
  go_loop [5, 6, 9] (fun v _ i => ∃ j : Nat, j ≤ s.size ∧ i = .int .i64 j ∧ v = .int .u64 (val (orTo l s j))) (fun _ _ i => s.size - (intOf i).toNat)
  case atStart => exact ⟨0, by omega, rfl, rfl⟩
  case round =>
    obtain ⟨j, hj, rfl, rfl⟩ := hrel
    by_cases hlt : j < s.size
    · have HS := Lib.hid (orTo_step l s j hlt)
      go_wp2_with (refine (Bits_any a cap l _ _ hl hrd).mono ?_; rintro e w' ⟨rfl, rfl⟩)
      go_round
      case rel => exact ⟨j + 1, by omega, by go_num, by rw [← HS.out]⟩
      case measure => simp [intOf]; omega
    · have hj1 : j = s.size := by omega
      have HJ := Lib.hid hj1
      clear hj1
      go_wp2
      go_ret
      exact ⟨ret_int (by rw [HJ.out]), rfl⟩
def masksV (q n op cl co cm sp : BitVec 64) : Value := .agg #[.int .u64 (val q), .int .u64 (val n), .int .u64 (val op), .int .u64 (val cl), .int .u64 (val co), .int .u64 (val cm), .int .u64 (val sp)]
end Go.Proofs.YtibgejndlllhfaaDoor
