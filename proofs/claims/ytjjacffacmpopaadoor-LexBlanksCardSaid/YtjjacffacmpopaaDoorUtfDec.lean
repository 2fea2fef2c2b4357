/- The model's decoding of a text's bytes is the document's. Nothing of the program. -/
import Derived.Test.YtjjacffacmpopaaDoorUtfMath
set_option linter.unusedSimpArgs false
namespace Go.Proofs.YtjjacffacmpopaaDoor
open Go.RowKit UM

/-- a text's bytes -/
def bl (s : ByteArray) : List Nat := s.data.toList.map (fun (b : UInt8) => b.toNat)
theorem bl_len (s : ByteArray) : (bl s).length = s.size := by unfold bl; rw [List.length_map]; exact Array.length_toList
theorem bl_lo (s : ByteArray) : ∀ x ∈ bl s, x < 256 := by
  intro x hx
  unfold bl at hx
  obtain ⟨b, _, rfl⟩ := List.mem_map.1 hx
  exact b.toNat_lt
theorem bl_get (s : ByteArray) (j : Nat) (h : j < s.size) : (bl s)[j]?.getD 0 = s[j].toNat := by
  have h2 : j < s.data.toList.length := by rw [Array.length_toList]; exact h
  simp only [bl, List.getElem?_map, List.getElem?_eq_getElem h2, Option.map_some, Option.getD_some]
  rfl
theorem bl_inj {s t : ByteArray} (h : bl s = bl t) : s = t := by
  have h1 : s.data.toList = t.data.toList := by
    unfold bl at h
    exact List.map_inj_right (fun a b hab => UInt8.toNat_inj.1 hab) |>.1 h
  rcases s with ⟨⟨a⟩⟩; rcases t with ⟨⟨b⟩⟩
  simp only at h1; rw [h1]
theorem get_bang (s : ByteArray) (j : Nat) : (s.get! j).toNat = (bl s)[j]?.getD 0 := by
  rcases Nat.lt_or_ge j s.size with h | h
  · rw [bl_get s j h]
    show (s.data[j]!).toNat = _
    rw [getElem!_pos s.data j h]; rfl
  · have h2 : (bl s)[j]? = none := List.getElem?_eq_none (by rw [bl_len]; exact h)
    rw [h2]
    show (s.data[j]!).toNat = _
    rw [getElem!_neg s.data j (Nat.not_lt.2 h)]; rfl

def decL (L : List Nat) : Nat × Nat :=
  let at' (k : Nat) : Nat := L[k]?.getD 0
  let cont (k : Nat) : Bool := decide (k < L.length) && at' k / 64 == 2
  let b0 := at' 0
  if b0 < 0x80 then (b0, 1)
  else if b0 / 32 == 6 && cont 1 then
    let c := (b0 % 32) * 64 + at' 1 % 64
    if c ≥ 0x80 then (c, 2) else (65533, 1)
  else if b0 / 16 == 14 && cont 1 && cont 2 then
    let c := (b0 % 16) * 4096 + (at' 1 % 64) * 64 + at' 2 % 64
    if c ≥ 0x800 && Utf8.valid c then (c, 3) else (65533, 1)
  else if b0 / 8 == 30 && cont 1 && cont 2 && cont 3 then
    let c := (b0 % 8) * 262144 + (at' 1 % 64) * 4096 + (at' 2 % 64) * 64 + at' 3 % 64
    if c ≥ 0x10000 && Utf8.valid c then (c, 4) else (65533, 1)
  else (65533, 1)
theorem decode_decL (s : ByteArray) (pos : Nat) : Utf8.decode s pos = decL ((bl s).drop pos) := by
  have h1 : ∀ k, (s.get! (pos + k)).toNat = ((bl s).drop pos)[k]?.getD 0 := fun k => by rw [get_bang, List.getElem?_drop]
  have h2 : ∀ k, decide (pos + k < s.size) = decide (k < ((bl s).drop pos).length) := fun k => by
    rw [List.length_drop, bl_len]; congr 1; exact propext ⟨fun _ => by omega, fun _ => by omega⟩
  simp only [Utf8.decode, decL, h1, h2, Utf8.runeError]
theorem valid_pt (c : Nat) : Utf8.valid (c : Int) = decide (Pt c) := by
  rw [Bool.eq_iff_iff, decide_eq_true_iff]
  unfold Utf8.valid Pt
  simp only [Bool.or_eq_true, Bool.and_eq_true, decide_eq_true_eq]
  omega
theorem decL_dcd {L : List Nat} (hl : L ≠ []) : decL L = ((dcd L).1, (dcd L).2.1) := by
  rcases L with _ | ⟨a, t⟩
  · exact absurd rfl hl
  by_cases c1 : a < 128
  · simp [decL, dcd, c1]
  by_cases c2 : a / 32 = 6
  · have n3 : ¬ a / 16 = 14 := by omega
    have n4 : ¬ a / 8 = 30 := by omega
    rcases t with _ | ⟨b, t⟩
    · simp [decL, dcd, c1, c2, n3, n4, bad]
    by_cases g : b / 64 = 2
    · by_cases k : 128 ≤ a % 32 * 64 + b % 64 <;> simp [decL, dcd, c1, c2, n3, n4, bad, g, k]
    · simp [decL, dcd, c1, c2, n3, n4, bad, g]
  by_cases c3 : a / 16 = 14
  · have n4 : ¬ a / 8 = 30 := by omega
    rcases t with _ | ⟨b, _ | ⟨c, t⟩⟩
    · simp [decL, dcd, c1, c2, c3, n4, bad]
    · simp [decL, dcd, c1, c2, c3, n4, bad]
    by_cases g : b / 64 = 2
    · by_cases g2 : c / 64 = 2
      · have hv := valid_pt (a % 16 * 4096 + b % 64 * 64 + c % 64)
        by_cases k : 2048 ≤ a % 16 * 4096 + b % 64 * 64 + c % 64 <;> by_cases k2 : Pt (a % 16 * 4096 + b % 64 * 64 + c % 64) <;> simp only [k2] at hv <;> simp [decL, dcd, c1, c2, c3, n4, bad, g, g2, k, k2] <;> simp_all
      · simp [decL, dcd, c1, c2, c3, n4, bad, g, g2]
    · simp [decL, dcd, c1, c2, c3, n4, bad, g]
  by_cases c4 : a / 8 = 30
  · rcases t with _ | ⟨b, _ | ⟨c, _ | ⟨d, t⟩⟩⟩
    · simp [decL, dcd, c1, c2, c3, c4, bad]
    · simp [decL, dcd, c1, c2, c3, c4, bad]
    · simp [decL, dcd, c1, c2, c3, c4, bad]
    by_cases g : b / 64 = 2
    · by_cases g2 : c / 64 = 2
      · by_cases g3 : d / 64 = 2
        · have hv := valid_pt (a % 8 * 262144 + b % 64 * 4096 + c % 64 * 64 + d % 64)
          by_cases k : 65536 ≤ a % 8 * 262144 + b % 64 * 4096 + c % 64 * 64 + d % 64 <;> by_cases k2 : Pt (a % 8 * 262144 + b % 64 * 4096 + c % 64 * 64 + d % 64) <;> simp only [k2] at hv <;> simp [decL, dcd, c1, c2, c3, c4, bad, g, g2, g3, k, k2] <;> simp_all
        · simp [decL, dcd, c1, c2, c3, c4, bad, g, g2, g3]
      · simp [decL, dcd, c1, c2, c3, c4, bad, g, g2]
    · simp [decL, dcd, c1, c2, c3, c4, bad, g]
  · simp [decL, dcd, c1, c2, c3, c4, bad]
theorem decode_dcd (s : ByteArray) (pos : Nat) (h : pos < s.size) : Utf8.decode s pos = ((dcd ((bl s).drop pos)).1, (dcd ((bl s).drop pos)).2.1) := by
  rw [decode_decL]
  refine decL_dcd fun e => ?_
  have := congrArg List.length e
  simp only [List.length_drop, bl_len, List.length_nil] at this; omega
end Go.Proofs.YtjjacffacmpopaaDoor
