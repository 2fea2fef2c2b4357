/- The document's letter, Hex, Written. -/
import Derived.Test.YtmiiekkmpkfnhaaDoorQuoH
import Derived.Test.YtmiiekkmpkfnhaaDoorUtfR3
import Derived.Lib.IndexBytes
namespace Go.Proofs.YtmiiekkmpkfnhaaDoor
open Go.RowKit UM QM

def frL : List Nat := [34, 92, 8, 9, 10, 12, 13]
def toL : List Nat := [34, 92, 98, 116, 110, 102, 114]
theorem letF_at (p : Nat) (j : Nat) (hj : j < 7) (h : ∀ i, i < j → frL[i]?.getD 0 ≠ p) (e : frL[j]?.getD 0 = p) : letF p = toL[j]?.getD 0 := by
  subst e
  rcases (by omega : j = 0 ∨ j = 1 ∨ j = 2 ∨ j = 3 ∨ j = 4 ∨ j = 5 ∨ j = 6) with rfl | rfl | rfl | rfl | rfl | rfl | rfl <;> rfl
theorem letF_no (p : Nat) (h : ∀ i, i < 7 → frL[i]?.getD 0 ≠ p) : letF p = 0 := by
  have h0 := h 0 (by decide); have h1 := h 1 (by decide); have h2 := h 2 (by decide); have h3 := h 3 (by decide); have h4 := h 4 (by decide); have h5 := h 5 (by decide); have h6 := h 6 (by decide)
  simp [frL] at h0 h1 h2 h3 h4 h5 h6
  unfold letF
  rw [if_neg (by omega), if_neg (by omega), if_neg (by omega), if_neg (by omega), if_neg (by omega), if_neg (by omega), if_neg (by omega)]
theorem frL_cell (w : World) (t : TypeId) (j : Nat) (hj : j < 7) : (w.alloc (.cells #[.int .i64 34, .int .i64 92, .int .i64 8, .int .i64 9, .int .i64 10, .int .i64 12, .int .i64 13] t)).cell? ⟨w.heap.size, j, none⟩ = some (.int .i64 ((frL[j]?.getD 0 : Nat) : Int)) := by
  rw [World.cell?_alloc_mark]
  rcases (by omega : j = 0 ∨ j = 1 ∨ j = 2 ∨ j = 3 ∨ j = 4 ∨ j = 5 ∨ j = 6) with rfl | rfl | rfl | rfl | rfl | rfl | rfl <;> rfl
abbrev toS : ByteArray := ⟨#[34, 92, 98, 116, 110, 102, 114]⟩
theorem toS_at (j : Nat) (h : j < toS.size) : ((toS[j]'h).toNat : Int) = ((toL[j]?.getD 0 : Nat) : Int) := by
  have : ∀ k : Fin 7, ((toS[k.val]'k.isLt).toNat : Int) = ((toL[k.val]?.getD 0 : Nat) : Int) := by decide
  exact this ⟨j, h⟩
set_option maxRecDepth 100000 in
set_option maxHeartbeats 2000000 in
theorem Rletter_any (p : Nat) (hp : p ≤ 1114111) (w : World) : Calls Tryd.prog 18 #[.int .i64 p] w fun r w' => r = .returned (.int .u8 (letF p : Nat)) ∧ Below w.heap.size w w' := by
  go_enter Tryd.func18, Tryd.ntmps18
  go_wp2
  have hcell := frL_cell w 3
  have B0 : Below w.heap.size w (w.alloc (.cells #[.int .i64 34, .int .i64 92, .int .i64 8, .int .i64 9, .int .i64 10, .int .i64 12, .int .i64 13] 3)) := (Below.refl _ _).alloc (Nat.le_refl _) _
  have HC := Lib.hid hcell; have HB := Lib.hid B0
  clear hcell B0
  generalize w.alloc (.cells #[.int .i64 34, .int .i64 92, .int .i64 8, .int .i64 9, .int .i64 10, .int .i64 12, .int .i64 13] 3) = V at *
  go_loopw [5] (fun v5 wr => ∃ j : Nat, j ≤ 7 ∧ v5 = .int .i64 j ∧ wr = V ∧ Hid (∀ i, i < j → frL[i]?.getD 0 ≠ p)) (fun v5 _ => 7 - (intOf v5).toNat)
  case atStart => exact ⟨0, by decide, rfl, rfl, Lib.hid (fun i h => by omega)⟩
  case round =>
    obtain ⟨j, hj, rfl, rfl, HJ⟩ := hrel
    by_cases h7 : j < 7
    · have hc := HC.out j h7
      obtain ⟨f, hf⟩ : ∃ f, f = frL[j]?.getD 0 := ⟨_, rfl⟩
      rw [← hf] at hc
      by_cases e : f = p
      · have hL := letF_at p j h7 HJ.out (hf ▸ e)
        have hto := toS_at j
        have HL := Lib.hid hL; have HF := Lib.hid hf
        clear hL hf
        have e' : (f : Int) = (p : Int) := by omega
        subst e
        go_wp2
        go_ret
        exact ⟨by rw [HL.out]; rfl, HB.out⟩
      · have hne : ((f : Int) == (p : Int)) = false := by simp; omega
        have HN : Hid (∀ i, i < j + 1 → frL[i]?.getD 0 ≠ p) := Lib.hid (fun i h => by
          rcases Nat.lt_succ_iff_lt_or_eq.1 h with h | rfl
          · exact HJ.out i h
          · rw [← hf]; exact e)
        clear hf e
        go_wp2
        go_roundw
        case rel => exact ⟨j + 1, by omega, by go_num, trivial, HN⟩
        case measure => simp [intOf]; omega
    · have : j = 7 := by omega
      subst this
      have HL := Lib.hid (letF_no p HJ.out)
      go_wp2
      go_ret
      exact ⟨by rw [HL.out]; rfl, HB.out⟩
theorem tx_app' (a b : List Nat) : tx a ++ tx b = tx (a ++ b) := by
  apply bl_inj
  unfold bl
  rw [ByteArray.data_append, Array.toList_append, List.map_append, tx_list, tx_list, tx_list, List.map_append, List.map_append]
theorem dig_ex (d : Nat) (hd : d < 16) : digs.extract d (d + 1) = tx [hxd d] := by
  have : ∀ k : Fin 16, (digs.extract k.val (k.val + 1)).data = (tx [hxd k.val]).data := by decide
  have h := this ⟨d, hd⟩
  cases h1 : digs.extract d (d + 1)
  rw [h1] at h
  simp only at h
  rw [h]
set_option maxRecDepth 100000 in
set_option maxHeartbeats 2000000 in
theorem RHex_any (u : Nat) (hu : u < 65536) (w : World) : Calls Tryd.prog 19 #[.int .i64 u, .int .i64 4] w fun r w' => r = .returned (.string (tx (hx4 u))) ∧ w = w' := by
  go_enter Tryd.func19, Tryd.ntmps19
  go_wp2
  go_loopw [0, 6, 7] (fun v0 v6 v7 wr => ∃ j n : Nat, j ≤ 4 ∧ v7 = .int .i64 j ∧ v0 = .int .i64 n ∧ n < 65536 ∧ Hid (n = u / 16 ^ j) ∧ v6 = .string (tx ((hx4 u).drop (4 - j))) ∧ wr = w) (fun _ _ v7 _ => 4 - (intOf v7).toNat)
  case atStart => exact ⟨0, u, by decide, rfl, rfl, hu, Lib.hid (by simp), rfl, rfl⟩
  case round =>
    obtain ⟨j, n, hj, rfl, rfl, hn, HN, rfl, rfl⟩ := hrel
    by_cases h4 : j < 4
    · obtain ⟨d, hd⟩ : ∃ d, d = n % 16 := ⟨_, rfl⟩
      have hd16 : d < 16 := by omega
      have hdi : (n : Int) % 16 = (d : Int) := by omega
      have hdx := dig_ex d hd16
      have hst : Hid ([hxd d] ++ (hx4 u).drop (4 - j) = (hx4 u).drop (4 - (j + 1))) := Lib.hid (by
        rw [hd, HN.out]
        rcases (by omega : j = 0 ∨ j = 1 ∨ j = 2 ∨ j = 3) with rfl | rfl | rfl | rfl <;> first | rfl | simp [hx4])
      have hnx : Hid (n / 16 = u / 16 ^ (j + 1)) := Lib.hid (by rw [HN.out, Nat.div_div_eq_div_mul, Nat.pow_succ])
      have hsl : ∀ W, (Instr.slice 9 (.string digs) (some (.int .i64 (d : Int))) (some (.int .i64 ((d : Int) + 1))) none).run Tryd.prog W = .ok (.string (tx [hxd d])) W := fun W => by
        rw [run_slice_string W 9 digs .i64 .i64 (d : Int) ((d : Int) + 1) Tryd.underlying9 (by omega) (by omega) (by show (d : Int) + 1 ≤ 16; omega), ← hdx]
        rfl
      have HD := Lib.hid hd
      have hLl : ((hx4 u).drop (4 - j)).length ≤ 4 := by simp [hx4]
      generalize (hx4 u).drop (4 - j) = L at *
      have hcat : ¬ 9223372036854775807 < (tx [hxd d]).size + (tx L).size := by rw [tx_size, tx_size]; simp; omega
      clear hd hdx hLl
      go_wp2
      go_roundw
      case rel => exact ⟨j + 1, n / 16, by omega, by go_num, by go_num, by omega, hnx, by rw [tx_app', hst.out], trivial⟩
      case measure => simp [intOf]; omega
    · have : j = 4 := by omega
      subst this
      go_wp2
      go_ret
      exact ⟨rfl, rfl⟩
end Go.Proofs.YtmiiekkmpkfnhaaDoor
