/- lex: the tables of signs and words; Word, Name, signOf walked. -/
import Derived.Test.YtjjacffacmpopaaDoorLexAs
import Derived.Test.YtjjacffacmpopaaDoorUtfH
import Derived.Test.YtjjacffacmpopaaDoorUtfR2
import Derived.WalkMore
import Derived.Deep.LoopGhost
import Derived.Deep.MidRow
namespace Go.Proofs.YtjjacffacmpopaaDoor
open Go.RowKit UM QM LX

def wdL : List (List Nat) := [[97, 110, 100], [97, 115], [98, 114, 101, 97, 107], [99, 97, 116, 99, 104], [100, 101, 102], [101, 108, 105, 102], [101, 108, 115, 101], [101, 110, 100], [102, 111, 114, 101, 97, 99, 104], [105, 102], [108, 97, 98, 101, 108], [111, 114], [114, 101, 100, 117, 99, 101], [116, 104, 101, 110], [116, 114, 121]]
def wdT (i : Nat) : ByteArray := tx ((wdL[i]?).getD [])
def sgT (i : Nat) : ByteArray := tx ((sgL[i]?).getD [])
/-- the tables as laid -/
def Wd (w : World) : Prop := ∀ i, i < 15 → w.cell? ⟨0, i, none⟩ = some (.string (wdT i))
def Sg (w : World) : Prop := ∀ i, i < 33 → w.cell? ⟨2, i, none⟩ = some (.string (sgT i))
theorem Wd.below {w w' : World} (h : Wd w) (hb : Below w.heap.size w w') : Wd w' := fun i hi => by rw [hb.cell (lt_of_cell (h i hi))]; exact h i hi
theorem Sg.below {w w' : World} (h : Sg w) (hb : Below w.heap.size w w') : Sg w' := fun i hi => by rw [hb.cell (lt_of_cell (h i hi))]; exact h i hi
theorem bl_sgT (i : Nat) : bl (sgT i) = (sgL[i]?).getD [] := by
  unfold sgT
  refine bl_tx ?_
  rcases h : sgL[i]? with _ | l
  · simp
  · have : ∀ l ∈ sgL, ∀ x ∈ l, x < 256 := by decide
    exact this l (List.mem_of_getElem? h)
theorem bl_wdT (i : Nat) : bl (wdT i) = (wdL[i]?).getD [] := by
  unfold wdT
  refine bl_tx ?_
  rcases h : wdL[i]? with _ | l
  · simp
  · have : ∀ l ∈ wdL, ∀ x ∈ l, x < 256 := by decide
    exact this l (List.mem_of_getElem? h)
theorem arr_some {arr : Array Value} {i : Nat} {v : Value} (h : arr[i]? = some v) : ∃ h2 : i < arr.size, arr[i] = v := by
  rcases Nat.lt_or_ge i arr.size with h' | h'
  · exact ⟨h', by rw [Array.getElem?_eq_getElem h'] at h; exact Option.some.inj h⟩
  · rw [Array.getElem?_eq_none h'] at h; cases h
theorem idxSigns (arr : Array Value) (i : Nat) (v : Value) (h : arr[i]? = some v) (hi : i < 33) (w : World) : (Instr.index 78 (.agg arr) (.int .i64 i)).run Tryd.prog w = .ok v w := by
  have h1 := run_underlying (P := Tryd.prog) (w := w) Tryd.underlying78
  obtain ⟨h2, h3⟩ := arr_some h
  simp [Instr.index, part, asIntOf, h1, Tryd.sizeOf9, Tryd.isAgg9, h, go_sem]
  intro hc; omega
theorem idxWords (arr : Array Value) (i : Nat) (v : Value) (h : arr[i]? = some v) (hi : i < 15) (w : World) : (Instr.index 35 (.agg arr) (.int .i64 i)).run Tryd.prog w = .ok v w := by
  have h1 := run_underlying (P := Tryd.prog) (w := w) Tryd.underlying35
  obtain ⟨h2, h3⟩ := arr_some h
  simp [Instr.index, part, asIntOf, h1, Tryd.sizeOf9, Tryd.isAgg9, h, go_sem]
  intro hc; omega
theorem beq_txt (s t : ByteArray) : (s.toList == t.toList) = decide (bl s = bl t) := by
  have h := txt_eq (l := bl s) (t := t) (bl_lo s)
  rw [tx_bl] at h
  exact h
def wdF (l : List Nat) : Bool := wdL.contains l
theorem wdF_yes {l : List Nat} {i : Nat} (hi : i < 15) (h : l = (wdL[i]?).getD []) : wdF l = true := by
  have h15 : i < wdL.length := hi
  unfold wdF
  rw [List.contains_iff_mem, h, List.getElem?_eq_getElem h15]
  exact List.getElem_mem h15
theorem wdF_no {l : List Nat} (h : ∀ i, i < 15 → l ≠ (wdL[i]?).getD []) : wdF l = false := by
  unfold wdF
  rw [Bool.eq_false_iff, Ne, List.contains_iff_mem]
  intro hm
  obtain ⟨i, hi, he⟩ := List.getElem_of_mem hm
  exact h i hi (by rw [List.getElem?_eq_getElem hi]; exact he.symm)
def wdArrV (f : Nat → ByteArray) : List Value := (List.range 15).map (fun i => Value.string (f i))
theorem wdArr (f : Nat → ByteArray) : ∀ i, i < 15 → (wdArrV f).toArray[i]? = some (Value.string (f i)) := fun i hi => by
  unfold wdArrV; simp [hi]
theorem wdArrR {w : World} {f : Nat → ByteArray} (h : ∀ i, i < 15 → w.cell? ⟨0, i, none⟩ = some (.string (f i))) : w.rangeAt 0 0 (wdArrV f) := fun j v hv => by
  have hj : j < 15 := by
    rcases Nat.lt_or_ge j 15 with h1 | h1
    · exact h1
    · rw [List.getElem?_eq_none (by unfold wdArrV; simpa using h1)] at hv; cases hv
  have := wdArr f j hj
  rw [List.getElem?_toArray] at this
  rw [this] at hv
  rw [Nat.zero_add, ← Option.some.inj hv]
  exact h j hj
theorem wdArrI : (Tryd.prog.info? 35).map (·.size) = some 15 := by kernel_rfl
theorem wp_wdArr {ops : Array Oper} {rest : List Oper} {op : Oper} {a : Act} {w : World} {Q : Exit → Act → World → Prop} {f : Nat → ByteArray} (hgd : op.guard = none) (ho : op.op = .load 35 (.global 0)) (hR : w.rangeAt 0 0 (wdArrV f))
    (h : wpList Tryd.prog ops Q rest (a.put op.dst (.agg (wdArrV f).toArray)) w) : wpList Tryd.prog ops Q (op :: rest) a w :=
  wpList_load_mid hgd 35 (.global 0) ho 0 0 rfl (wdArrV f) _ hR Tryd.underlying35 rfl (by rw [wdArrI]; unfold wdArrV; simp) h
set_option maxRecDepth 100000 in
set_option maxHeartbeats 4000000 in
theorem Word_any (s : ByteArray) (w : World) (ht : Wd w) :
    Calls Tryd.prog 10 #[.string s] w fun e w' => e = .returned (.bool (wdF (bl s))) ∧ w = w' := by
  have HRA := Lib.hid (wdArrR ht)
  clear ht
  have HF := Lib.hid bl_wdT
  generalize wdT = f at *
  go_enter Tryd.func10, Tryd.ntmps10
  go_wp2_with (refine wp_wdArr rfl rfl HRA.out ?_)
  have HA := Lib.hid (wdArr f)
  generalize (wdArrV f).toArray = arr at *
  go_wp2_with fail
  go_loopw [6] (fun s6 wr => ∃ i : Nat, i ≤ 15 ∧ s6 = .int .i64 i ∧ Hid (∀ j, j < i → bl s ≠ bl (f j)) ∧ Hid (w = wr)) (fun s6 _ => 15 - (intOf s6).toNat)
  case atStart => exact ⟨0, by decide, rfl, Lib.hid (fun j h => absurd h (by omega)), Lib.hid rfl⟩
  case round =>
    obtain ⟨i, hi, rfl, HJ, HW⟩ := hrel
    by_cases hlt : i < 15
    · have ha := idxWords arr i _ (HA.out i hlt) hlt
      have HL := Lib.hid hlt
      have hi' : (i : Int) < 15 := by omega
      by_cases hc : bl s = bl (f i)
      · have t1 : (s.toList == (f i).toList) = true := by rw [beq_txt]; exact decide_eq_true hc
        have HR : Hid (wdF (bl s) = true) := Lib.hid (wdF_yes hlt (by rw [hc]; exact HF.out i))
        clear hc hlt HJ
        go_wp2
        go_ret
        exact ⟨by rw [HR.out]; rfl, HW.out⟩
      · have t1 : (s.toList == (f i).toList) = false := by rw [beq_txt]; exact decide_eq_false hc
        have HN : Hid (∀ j, j < i + 1 → bl s ≠ bl (f j)) := Lib.hid (fun j hj => by
          by_cases h : j = i
          · rw [h]; exact hc
          · exact HJ.out j (by omega))
        clear hc hlt HJ
        go_wp2
        go_roundw
        case rel => exact ⟨i + 1, by have := HL.out; omega, by go_num, HN, HW⟩
        case measure => have := HL.out; simp [intOf]; omega
    · have hi' : ¬ (i : Int) < 15 := by omega
      have HR : Hid (wdF (bl s) = false) := Lib.hid (wdF_no (fun j hj => by rw [← HF.out j]; exact HJ.out j (by omega)))
      clear hlt HJ
      go_wp2
      go_ret
      exact ⟨by rw [HR.out]; rfl, HW.out⟩
end Go.Proofs.YtjjacffacmpopaaDoor
