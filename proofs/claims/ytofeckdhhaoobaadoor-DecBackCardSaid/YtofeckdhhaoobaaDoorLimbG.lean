/- Walks: strconv.FormatUint, AppendUint at base 10; Text, Digits. -/
import Derived.Test.YtofeckdhhaoobaaDoorLimbMaths
import Derived.Test.YtofeckdhhaoobaaDoorLimbF
import Derived.Test.YtofeckdhhaoobaaDoorShelf
namespace Go.Proofs.YtofeckdhhaoobaaDoor
open Go.RowKit LM

/-- the library's table of powers of ten -/
def Tab (w : World) : Prop := Lib.TabIs Tryd.prog w "internal/strconv.uint64pow10" .u64 Lib.pow10Tab
theorem Tab.below {w w' : World} (h : Tab w) (hb : Below w.heap.size w w') : Tab w' := Lib.tabBelow_of_tabIs h w' hb

set_option maxHeartbeats 4000000 in
set_option maxRecDepth 100000 in
theorem FormatUintIn_any (u : Nat) (w : World) (hu64 : u < 18446744073709551616) (htab : Tab w) :
    Calls Tryd.prog 109 #[.int .u64 u, .int .i64 10] w fun e w' => e = .returned (.string ⟨(Lib.decDigits u).toArray⟩) ∧ Below w.heap.size w w' := by
  by_cases hs : u < 100
  · have iu : (u : Int) < 100 := by omega
    go_enter Tryd.func109, Tryd.ntmps109
    go_wp2_with (go_at_call 118; refine (Tryd.internal_strconv_small u hs _).mono ?_; rintro e w' ⟨rfl, rfl⟩)
    go_ret
    exact ⟨rfl, Below.refl _ _⟩
  · have hu1 : 1 ≤ u := by omega
    have hnd20 : Lib.nDigits u ≤ 20 := by have := Lib.numDigits_eq u hu1 hu64; split at this <;> omega
    have hal : Tryd.prog.arrayLen 139 = 24 := by simp [Program.arrayLen, Tryd.underlying139]
    have hsl : ∀ W, (Instr.sliceAt 139 (.pointer (some ⟨w.heap.size, 0, none⟩)) none (some (.int .i64 (Lib.nDigits u : Int))) none).run Tryd.prog W = .ok (.slice (some ⟨w.heap.size, 0, none⟩) (Lib.nDigits u) 24) W := fun W => by
      rw [run_sliceAt_array_h W 139 ⟨w.heap.size, 0, none⟩ (by simp [Program.arrayLen, Program.elem, Tryd.underlying139]) .i64 (Lib.nDigits u : Int) (by omega) (by rw [hal]; omega)]
      go_simp
    have hH0 := Lib.holds_zero0 w 139 (Lib.nDigits u) (by omega)
    have hfmt := Tryd.internal_strconv_formatBase10 w.heap.size 0 24 u (Array.replicate (Lib.nDigits u) 0) (w.alloc (.cells Lib.zeros24 139)) hH0 (by rw [Array.size_replicate]; exact Lib.lt_pow_nDigits u) hu64 (by rw [Array.size_replicate]; omega)
    rw [Array.size_replicate] at hfmt
    have HH0 := Lib.hid hH0
    have HF := Lib.hid hfmt
    have iu : (100 : Int) ≤ (u : Int) := by omega
    clear hH0 hal hfmt
    go_enter Tryd.func109, Tryd.ntmps109
    go_wp2_with (go_at_call 119; refine (Tryd.internal_strconv_numDigits u hu1 hu64 _ (Lib.tabIs_alloc htab _)).mono ?_; rintro e w' ⟨rfl, rfl⟩)
    refine HF.out.mono ?_
    rintro e w' ⟨rfl, k, v', dk, rfl, hF⟩
    have hcv : (convert 53 9 (.slice (some ⟨w.heap.size, 0, none⟩) (Lib.nDigits u) 24)).run Tryd.prog ((Sort.putRow (fun (b : UInt8) => Value.int .u8 (b.toNat : Int)) (w.alloc (.cells Lib.zeros24 139)) w.heap.size 0 dk).drewN k) = .ok (.string ⟨(Lib.decDigits u).toArray⟩) ((Sort.putRow (fun (b : UInt8) => Value.int .u8 (b.toNat : Int)) (w.alloc (.cells Lib.zeros24 139)) w.heap.size 0 dk).drewN k) := by
      have h := run_convert_bytes_back (P := Tryd.prog) ((Sort.putRow (fun (b : UInt8) => Value.int .u8 (b.toNat : Int)) (w.alloc (.cells Lib.zeros24 139)) w.heap.size 0 dk).drewN k) 53 9 5 ⟨w.heap.size, 0, none⟩ 24 (Lib.decDigits u) Tryd.underlying53 Tryd.underlying5 Tryd.underlying9 (fun j hj => by
        rw [Lib.row_is_numeral hF j hj, Lib.add_plain, World.cell?_drewN]
        exact Sort.cell?_putRow (fun (b : UInt8) => Value.int .u8 (b.toNat : Int)) _ w.heap.size 0 _ dk HH0.out (by rw [hF.size, Array.size_replicate]) j (by rw [hF.size]; rw [Lib.decDigits_length] at hj; exact hj))
      rw [Lib.decDigits_length] at h
      exact h
    obtain ⟨os, eo⟩ := Lib.fin_at w (.cells Lib.zeros24 139) dk k 0
    have hnx2 : Below w.heap.size w ((Sort.putRow (fun (b : UInt8) => Value.int .u8 (b.toNat : Int)) (w.alloc (.cells Lib.zeros24 139)) w.heap.size 0 dk).drewN k) := by rw [eo]; exact Lib.below_grow w.heap.size w (Nat.le_refl _) k os
    have HE := Lib.hid eo
    clear HF eo
    go_wp2
    go_ret
    exact ⟨rfl, hnx2⟩

set_option maxHeartbeats 1000000 in
theorem FormatUint_any (u : Nat) (w : World) (hu64 : u < 18446744073709551616) (htab : Tab w) :
    Calls Tryd.prog 84 #[.int .u64 u, .int .i64 10] w fun e w' => e = .returned (.string ⟨(Lib.decDigits u).toArray⟩) ∧ Below w.heap.size w w' := by
  have HT := Lib.hid htab
  clear htab
  go_enter Tryd.func84, Tryd.ntmps84
  go_wp2_with fail
  refine (FormatUintIn_any u w hu64 HT.out).mono ?_
  rintro e w' ⟨rfl, hb⟩
  go_wp2
  go_ret
  exact ⟨rfl, hb⟩

theorem dec_cells (n : Nat) : Lib.byteCells (Lib.decDigits n) = cs .u8 ((Lib.decDigits n).map (fun (b : UInt8) => b.toNat)) := by simp [Lib.byteCells, cs]

set_option maxHeartbeats 1000000 in
/-- AppendUint onto nothing -/
theorem AppendUint_any (u : Nat) (w : World) (hu64 : u < 18446744073709551616) (htab : Tab w) :
    Calls Tryd.prog 83 #[.slice none 0 0, .int .u64 u, .int .i64 10] w fun e w' => ∃ a cap, e = .returned (.slice a ((Lib.decDigits u).map (fun (b : UInt8) => b.toNat)).length cap) ∧ Own w' w.heap.size 5 .u8 a cap ((Lib.decDigits u).map (fun (b : UInt8) => b.toNat)) ∧ Below w.heap.size w w' := by
  have hA := Tryd.internal_strconv_AppendUint_10 w.heap.size 0 u hu64 (.slice none 0 0) [] w (World.ownsRow_nil _ _ _ _) (Nat.le_refl _) (by omega) htab
  have HA := Lib.hid hA
  clear hA htab
  go_enter Tryd.func83, Tryd.ntmps83
  go_wp2_with fail
  refine HA.out.mono ?_
  rintro e w' ⟨v', rfl, hown, hb, _⟩
  rw [Nat.zero_add, List.nil_append, dec_cells] at hown
  have hsh : ∃ a cap, v' = .slice a ((Lib.decDigits u).map (fun (b : UInt8) => b.toNat)).length cap := by
    rcases hown.2 with ⟨h1, h2⟩ | ⟨g, cap', cur, h1, _⟩
    · rw [List.length_map, h2]; exact ⟨_, _, h1⟩
    · rw [List.length_map]; exact ⟨_, _, h1⟩
  obtain ⟨a, cap, hv⟩ := hsh
  rw [hv] at hown ⊢
  have hown2 : Own w' w.heap.size 5 .u8 a cap ((Lib.decDigits u).map (fun (b : UInt8) => b.toNat)) := by
    unfold Own
    have e : ((Lib.decDigits u).map (fun (b : UInt8) => b.toNat)).length = (Lib.decDigits u).length := List.length_map _
    rw [e] at hown ⊢; exact hown
  clear HA hown hv
  go_wp2
  go_ret
  exact ⟨a, cap, ret_slice (by simp), hown2, hb⟩

set_option maxHeartbeats 2000000 in
/-- Digits: how many there are -/
theorem Digits_any (a : Option Addr) (cap : Nat) (l : List Nat) (w : World) (hl : l.length ≤ 1073741824) (hlo : Lo 4294967296 l) (hrd : Rd w .u32 a l) (htab : Tab w) :
    Calls Tryd.prog 73 #[.slice a l.length cap] w fun e w' => e = .returned (.int .i64 ((dg 10 (vl 1000000000 l)).length : Nat)) ∧ Below w.heap.size w w' := by
  have hn1 := nlen hlo
  have HLO := Lib.hid hlo; have HT := Lib.hid htab
  clear hlo htab
  go_enter Tryd.func73, Tryd.ntmps73
  go_wp2_with fail
  refine (Norm_any a cap l w (by omega) HLO.out hrd).mono ?_
  rintro e w1 ⟨a1, c1, rfl, hown1, hb1⟩
  rcases Nat.eq_zero_or_pos (dg 1000000000 (vl 1000000000 l)).length with h0 | h0
  · have hz : vl 1000000000 l = 0 := (dg_eq_nil (by omega)).1 (List.eq_nil_of_length_eq_zero h0)
    have HZ := Lib.hid hz
    rw [h0]
    clear hown1 hz h0 hn1
    go_wp2
    go_ret
    exact ⟨by rw [HZ.out, dg_zero]; rfl, hb1⟩
  · obtain ⟨h, hh⟩ : ∃ h, (dg 1000000000 (vl 1000000000 l)).length = h + 1 := ⟨_, (Nat.succ_pred_eq_of_pos h0).symm⟩
    have hd := nDigits_high hh
    obtain ⟨b, off, x, e1, HX, hx, c1'⟩ := hown1.rd.get (Lo_dg (by omega) _) h (by omega)
    have hdx : Lib.nDigits x = (Lib.decDigits x).length := (Lib.decDigits_length x).symm
    rw [← HX.out, hdx] at hd
    have h20 : (Lib.decDigits x).length ≤ 20 := by
      rcases Nat.eq_zero_or_pos x with e | e
      · subst e; rw [← hdx, Lib.nDigits_small (by omega)]; omega
      · rw [← hdx]; have := Lib.numDigits_eq x e (by omega); split at this <;> omega
    have HD := Lib.hid hd
    have hF := FormatUint_any x w1 (by omega) (HT.out.below hb1)
    have HF := Lib.hid hF
    rw [hh]
    subst e1
    clear hown1 hd hdx h0 hF
    have hcI : w1.cell? ⟨b, off + h, none⟩ = some (.int .u32 (x : Int)) := c1'
    have hn2 : h ≤ l.length := by omega
    clear hn1 hh c1'
    go_wp2_with fail
    refine HF.out.mono ?_
    rintro e w2 ⟨rfl, hb2⟩
    go_wp2
    go_ret
    refine ⟨?_, hb1.trans (hb2.mono hb1.size)⟩
    rw [HD.out]
    exact ret_int (by simp)
end Go.Proofs.YtofeckdhhaoobaaDoor
