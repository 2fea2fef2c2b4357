/- Walk of the law UtfOrder. -/
import Derived.Test.YtmkmaignfcjjkaaDoorUtfL
import Derived.Test.YtmkmaignfcjjkaaDoorUtfR2
import Derived.Laws.Cover1
namespace Go.Proofs.YtmkmaignfcjjkaaDoor
open Go.RowKit UM

theorem less_tx : ∀ {a b : List Nat}, (∀ x ∈ a, x < 256) → (∀ x ∈ b, x < 256) → Op.bytesLess (a.map UInt8.ofNat) (b.map UInt8.ofNat) = ltL a b
  | [], [], _, _ => rfl
  | [], _ :: _, _, _ => rfl
  | _ :: _, [], _, _ => rfl
  | x :: a, y :: b, ha, hb => by
    have h1 := ha x (by simp)
    have h2 := hb y (by simp)
    have ih := less_tx (a := a) (b := b) (fun z hz => ha z (by simp [hz])) (fun z hz => hb z (by simp [hz]))
    simp only [List.map_cons, Op.bytesLess, ltL, ih]
    have e1 : (UInt8.ofNat x < UInt8.ofNat y) ↔ x < y := by
      rw [UInt8.lt_iff_toNat_lt, UInt8.toNat_ofNat', UInt8.toNat_ofNat', Nat.mod_eq_of_lt h1, Nat.mod_eq_of_lt h2]
    have e2 : (UInt8.ofNat x == UInt8.ofNat y) = decide (x = y) := by
      rw [Bool.eq_iff_iff, beq_iff_eq, decide_eq_true_iff, ← UInt8.toNat_inj, UInt8.toNat_ofNat', UInt8.toNat_ofNat', Nat.mod_eq_of_lt h1, Nat.mod_eq_of_lt h2]
    rw [e2]
    congr 1
    exact decide_eq_decide.2 e1
theorem less_txt {a b : List Nat} (ha : ∀ x ∈ a, x < 256) (hb : ∀ x ∈ b, x < 256) : Op.bytesLess (tx a).toList (tx b).toList = ltL a b := by
  rw [ByteArray.toList_eq, ByteArray.toList_eq, tx_list, tx_list]
  exact less_tx ha hb
theorem tx_app (a b : List Nat) : tx a ++ tx b = tx (a ++ b) := by
  apply ByteArray.ext
  apply Array.toList_inj.1
  rw [tx_list, List.map_append, ← tx_list, ← tx_list]
  simp
theorem sound {ps : List Nat} (h : ∀ p ∈ ps, Pt p) : xp (bl (tx (encL ps))) = ps := by
  rw [bl_tx (encL_lo h), xp_enc h]
theorem txsize_le (ps : List Nat) : (tx (encL ps)).size ≤ 4 * ps.length := by rw [tx_size]; exact encL_len ps
theorem slc_len (ps : List Nat) (x y : Int) : (slc ps x y).length ≤ ps.length := by unfold slc; rw [List.length_drop, List.length_take]; omega
set_option maxHeartbeats 4000000 in
set_option maxRecDepth 20000 in
theorem order_main (x y u v : ByteArray) (m : Int) (k : Nat) (s t : ByteArray) (z : Int) (w : World) (ht : Sh w)
    (hm : (m = -1 ∧ Op.bytesLess x.toList y.toList = true ∧ (x.toList == y.toList) = false) ∨ (m = 0 ∧ Op.bytesLess x.toList y.toList = false ∧ (x.toList == y.toList) = true) ∨ (m = 1 ∧ Op.bytesLess x.toList y.toList = false ∧ (x.toList == y.toList) = false))
    (HC : Hid (∀ W, Sh W → Calls Tryd.prog 21 #[.string s] W fun r w' => r = .returned (.string x) ∧ Below W.heap.size W w'))
    (HC2 : Hid (∀ W, Sh W → Calls Tryd.prog 21 #[.string t] W fun r w' => r = .returned (.string y) ∧ Below W.heap.size W w'))
    (HX : Hid (∀ W, Calls Tryd.prog 17 #[.string x] W fun r w' => ∃ a c, r = .returned (.slice a k c) ∧ Below W.heap.size W w'))
    (HM : Hid (∀ W, Sh W → Calls Tryd.prog 25 #[.string x, .string y] W fun r w' => r = .returned (.int .i64 m) ∧ Below W.heap.size W w'))
    (HU : Hid (∀ W, Sh W → Calls Tryd.prog 27 #[.string x, .int .i64 0, .int .i64 z] W fun r w' => r = .returned (.string u) ∧ Below W.heap.size W w'))
    (HV : Hid (∀ W, Sh W → Calls Tryd.prog 27 #[.string x, .int .i64 z, .int .i64 k] W fun r w' => r = .returned (.string v) ∧ Below W.heap.size W w'))
    (hs : ((u ++ v).toList == x.toList) = true) (hus : u.size ≤ 4194304) (hvs : v.size ≤ 4194304) :
    Calls Tryd.prog 10 #[.string s, .string t, .int .i64 z] w fun r w' => r = .returned (.bool true) ∧ Below w.heap.size w w' := by
  rcases hm with ⟨rfl, h1, h2⟩ | ⟨rfl, h1, h2⟩ | ⟨rfl, h1, h2⟩
  all_goals
    have HT := Lib.hid ht
    clear ht
    go_enter Tryd.func10, Tryd.ntmps10
    go_wp2_with fail
    refine (shown_any _ HT.out).mono ?_
    rintro r w1 ⟨rfl, hb1⟩
    have HT1 := Lib.hid (HT.out.below hb1); have B1 := Lib.hid hb1
    clear hb1
    go_wp2_with fail
    refine (HC.out _ HT1.out).mono ?_
    rintro r w2 ⟨rfl, hb⟩
    have HT2 := Lib.hid (HT1.out.below hb); have B2 := Lib.hid (B1.out.trans (hb.mono B1.out.size))
    clear hb
    go_wp2_with fail
    refine (HC2.out _ HT2.out).mono ?_
    rintro r w3 ⟨rfl, hb⟩
    have HT3 := Lib.hid (HT2.out.below hb); have B3 := Lib.hid (B2.out.trans (hb.mono B2.out.size))
    clear hb
    go_wp2_with fail
    refine (HX.out _).mono ?_
    rintro r w4 ⟨a1, c1, rfl, hb⟩
    have HT4 := Lib.hid (HT3.out.below hb); have B4 := Lib.hid (B3.out.trans (hb.mono B3.out.size))
    clear hb
    go_wp2_with fail
    refine (HM.out _ HT4.out).mono ?_
    rintro r w5 ⟨rfl, hb⟩
    have HT5 := Lib.hid (HT4.out.below hb); have B5 := Lib.hid (B4.out.trans (hb.mono B4.out.size))
    clear hb
    go_wp2_with fail
    refine (HU.out _ HT5.out).mono ?_
    rintro r w6 ⟨rfl, hb⟩
    have HT6 := Lib.hid (HT5.out.below hb); have B6 := Lib.hid (B5.out.trans (hb.mono B5.out.size))
    clear hb
    go_wp2_with fail
    refine (HV.out _ HT6.out).mono ?_
    rintro r w7 ⟨rfl, hb⟩
    have HT7 := Lib.hid (HT6.out.below hb); have B7 := Lib.hid (B6.out.trans (hb.mono B6.out.size))
    clear hb
    go_wp2
    go_ret
    exact ⟨rfl, B7.out⟩

theorem order_walk {s t : ByteArray} {z : Int} (w : World) (ht : Sh w) (hs : s.data.toList.length ≤ 1048576) (hs2 : t.data.toList.length ≤ 1048576) (_ : (Lit.int .i64 z).wf = true) : Calls Tryd.prog 10 #[.string s, .string t, .int .i64 z] w fun r w' => r = .returned (.bool true) ∧ Below w.heap.size w w' := by
  have hz : s.size ≤ 1048576 := by
    rw [Array.length_toList] at hs
    exact hs
  have hz2 : t.size ≤ 1048576 := by
    rw [Array.length_toList] at hs2
    exact hs2
  have hC := fun W h => Clean_any s W (by omega) h
  have hC2 := fun W h => Clean_any t W (by omega) h
  have p1 := xp_pts (bl s)
  have p2 := xp_pts (bl t)
  have g1 := xp_le (bl s)
  have g2 := xp_le (bl t)
  rw [bl_len] at g1 g2
  generalize xp (bl s) = ps at *
  generalize xp (bl t) = qs at *
  have z1 := txsize_le ps
  have z2 := txsize_le qs
  have hX := fun W => (Explode_any (tx (encL ps)) W (by omega)).mono fun r w' ⟨a, c, e, _, hb⟩ => (⟨a, c, e, hb⟩ : ∃ (a : Option Addr) (c : Nat), r = Ending.returned (Value.slice a (xp (bl (tx (encL ps)))).length c) ∧ Below W.heap.size W w')
  have hM := fun W h => Cmp_any (tx (encL ps)) (tx (encL qs)) W (by omega) (by omega) h
  have hU := fun W h => Slice_any (tx (encL ps)) 0 z W (by omega) h
  have hV := fun W h => Slice_any (tx (encL ps)) z (ps.length : Nat) W (by omega) h
  unfold ResT at hC hC2 hU hV
  unfold ResC at hM
  rw [sound p1] at hX hM hU hV
  rw [sound p2] at hM
  have y1 := txsize_le (slc ps 0 z)
  have y2 := txsize_le (slc ps z (ps.length : Nat))
  have y3 := slc_len ps 0 z
  have y4 := slc_len ps z (ps.length : Nat)
  have l1 := encL_lo p1
  have l2 := encL_lo p2
  refine order_main (tx (encL ps)) (tx (encL qs)) (tx (encL (slc ps 0 z))) (tx (encL (slc ps z (ps.length : Nat)))) (cmpL ps qs) ps.length s t z w ht ?_ (Lib.hid hC) (Lib.hid hC2) (Lib.hid hX) (Lib.hid hM) (Lib.hid hU) (Lib.hid hV) ?_ (by omega) (by omega)
  · have e1 := less_txt l1 l2
    have e2 := txt_eq (l := encL ps) (t := tx (encL qs)) l1
    rw [bl_tx l2] at e2
    rw [e1, e2]
    rcases ord_enc ps qs p1 p2 with ⟨a, b, _, d⟩ | ⟨a, b⟩ | ⟨a, b, _, d⟩
    · exact .inl ⟨a, b, decide_eq_false d⟩
    · exact .inr (.inl ⟨a, by rw [b]; exact ltL_irr _, by rw [b]; exact decide_eq_true rfl⟩)
    · exact .inr (.inr ⟨a, b, decide_eq_false d⟩)
  · rw [tx_app, ← encL_append, slc_two]
    simp
end Go.Proofs.YtmkmaignfcjjkaaDoor
