/- Walks: the document's answer: Cut. -/
import Derived.Test.YteipkibaoikilaaDoorLimbY
namespace Go.Proofs.YteipkibaoikilaaDoor
open Go.RowKit LM

set_option maxHeartbeats 4000000 in
/-- the document's cut, within the digits -/
theorem RCut_in (a : Option Addr) (ca v n : Nat) (w : World) (hl : (dg 10 v).length ≤ 1073741824) (hn : n < (dg 10 v).length) (hcap : (dg 10 v).length ≤ ca) (hcm : ca ≤ maxLen) (hrd : Rd w .u8 a (dg 10 v)) :
    Calls Tryd.prog 39 #[.slice a (dg 10 v).length ca, .int .i64 n] w fun e w' => ∃ a1 c1 a2 c2, e = .returned (.tuple #[.slice a1 (dg 10 (v / 10 ^ n)).length c1, .slice a2 (dg 10 (v % 10 ^ n)).length c2]) ∧
      Rd w' .u8 a1 (dg 10 (v / 10 ^ n)) ∧ Own w' w.heap.size 5 .u8 a2 c2 (dg 10 (v % 10 ^ n)) ∧ Below w.heap.size w w' := by
  have hdrop := dg_drop (b := 10) (by omega) n v
  have hlow := tr_low (b := 10) (by omega) (n := n) (v := v) (by omega)
  have HDR := Lib.hid hdrop; have HLOW := Lib.hid hlow
  obtain ⟨b, off, rfl, _⟩ := hrd.at (by omega)
  have HRD := Lib.hid hrd
  clear hdrop hlow hrd
  unfold maxLen at hcm
  generalize dg 10 v = x at *
  have htl : (x.take n).length = n := by rw [List.length_take]; omega
  have HTL := Lib.hid htl
  have hb1 : (([] : List Nat).length + (x.take n).length) * 1 ≤ 140737488355328 := by rw [htl]; simp; omega
  have hb2 : ([] : List Nat).length + (x.take n).length ≤ maxLen := by rw [htl]; unfold maxLen; simp; omega
  have HB1 := Lib.hid hb1; have HB2 := Lib.hid hb2
  have hdl : (x.drop n).length = x.length - n := List.length_drop
  rw [HDR.out] at hdl
  have HDL := Lib.hid hdl
  clear htl hb1 hb2 hdl
  go_enter Tryd.func39, Tryd.ntmps39
  go_wp2_with (at_builtin; refine wp_cat _ rfl _ _ 30 rfl w.heap.size 5 .u8 1 Tryd.underlying30 infoU8 _ _ 0 ca 0 n [] (x.take n) rfl HTL.out.symm rfl rfl (ownLit0 w _ _) ((HRD.out.take n).alloc _) (fun h => by cases h) HB1.out HB2.out (by simp) ?_)
  intro a4 c4 w4 hown4 hb4 _
  replace hown4 : Own w4 w.heap.size 5 .u8 a4 c4 (x.take n) := hown4
  have hbl := ((Below.refl w.heap.size w).alloc (Nat.le_refl _) _).trans hb4
  have hrd4 := (HRD.out.below hbl).drop n
  rw [HDR.out] at hrd4
  have hown5 := hown4.take (tr (x.take n)).length (by have := tr_take (x.take n); rw [this]; simp; omega)
  rw [← tr_take, HLOW.out] at hown5
  have hT : ∀ m, Calls Tryd.prog 49 #[.slice a4 n c4] (w4.drewN m) fun e u => e = .returned (.slice a4 (dg 10 (v % 10 ^ n)).length c4) ∧ w4.drewN m = u := fun m => by
    have h := rtrim_any a4 c4 (x.take n) (w4.drewN m) (by rw [HTL.out]; omega) (hown4.rd.dN m) hown4.cap.1
    rw [HTL.out, HLOW.out] at h; exact h
  have HT := Lib.hid hT
  clear hT hb4
  go_wp2_with fail
  go_quiet ((go_at_call 49; first | exact still (HT.out _) | exact still2 (HT.out _)))
  go_wp2
  go_ret2
  exact ⟨some ⟨b, off + n, none⟩, ca - n, a4, c4, by rw [HDL.out]; rfl, hrd4.dN _, hown5.dN _, bdN hbl _⟩

set_option maxHeartbeats 1000000 in
/-- the document's cut, beyond the digits -/
theorem RCut_out (a : Option Addr) (ca v n : Nat) (w : World) (hl : (dg 10 v).length ≤ 1073741824) (hn : (dg 10 v).length ≤ n) :
    Calls Tryd.prog 39 #[.slice a (dg 10 v).length ca, .int .i64 n] w fun e w' => e = .returned (.tuple #[.slice none 0 0, .slice a (dg 10 v).length ca]) ∧ w = w' := by
  generalize dg 10 v = x at *
  go_enter Tryd.func39, Tryd.ntmps39
  go_wp2
  go_ret2
  exact ⟨rfl, rfl⟩
end Go.Proofs.YteipkibaoikilaaDoor
