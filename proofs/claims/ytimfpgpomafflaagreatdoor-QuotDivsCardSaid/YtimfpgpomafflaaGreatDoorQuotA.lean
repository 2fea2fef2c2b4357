/- quot: limb's contracts at numbers; isWhole, isOdd, head, units, divide, Whole, Abs. -/
import Derived.Test.YtimfpgpomafflaaGreatDoorLimbMaths
import Derived.Test.YtimfpgpomafflaaGreatDoorDecAe
import Derived.Test.YtimfpgpomafflaaGreatDoorDecPl
import Derived.Test.YtimfpgpomafflaaGreatDoorLimbP
import Derived.Test.YtimfpgpomafflaaGreatDoorLimbQ
namespace Go.Proofs.YtimfpgpomafflaaGreatDoor
open Go.RowKit LM

theorem lo9 (v : Nat) : Lo 4294967296 (dg 1000000000 v) := Lo_mono (Lo_dg (by omega) _) (by omega)
theorem divmod9 (u v : Nat) (a b : Option Addr) (ca cb : Nat) (w : World) (hu : (dg 1000000000 u).length ≤ 100000) (hv : (dg 1000000000 v).length ≤ 100000) (h0 : 0 < v) (ha : Rd w .u32 a (dg 1000000000 u)) (hb : Rd w .u32 b (dg 1000000000 v)) :
    Calls Tryz.prog 43 #[.slice a (dg 1000000000 u).length ca, .slice b (dg 1000000000 v).length cb] w fun e w' => ∃ a1 c1 a2 c2, e = .returned (.tuple #[.slice a1 (dg 1000000000 (u / v)).length c1, .slice a2 (dg 1000000000 (u % v)).length c2, .int .i64 0]) ∧
      Rd w' .u32 a1 (dg 1000000000 (u / v)) ∧ Rd w' .u32 a2 (dg 1000000000 (u % v)) ∧ Below w.heap.size w w' := by
  have e1 : vl 1000000000 (dg 1000000000 u) = u := vl_dg (by omega) u
  have e2 : vl 1000000000 (dg 1000000000 v) = v := vl_dg (by omega) v
  rcases Nat.lt_or_ge (dg 1000000000 u).length (dg 1000000000 v).length with h | h
  · have k := DivMod_short a b ca cb (dg 1000000000 u) (dg 1000000000 v) w (by omega) (by omega) (lo9 u) (lo9 v) ha hb
    simp only [e1, e2] at k
    exact (k h).mono fun e w' ⟨a1, c1, a2, c2, he, o1, o2, hb⟩ => ⟨a1, c1, a2, c2, he, by first | exact o1.rd | exact o1, by first | exact o2.rd | exact o2, hb⟩
  · have hp : 0 < (dg 1000000000 v).length := by rw [dg_pos (by omega) h0]; simp
    obtain ⟨n, hn⟩ : ∃ n, (dg 1000000000 v).length = n + 1 := ⟨_, (Nat.sub_add_cancel hp).symm⟩
    have k := DivMod_any 18446744073709551615 Div64_full a b ca cb (dg 1000000000 u) (dg 1000000000 v) w (by omega) (by omega) (lo9 u) (lo9 v) ha hb n (by rw [e2]; exact hn) (by rw [e1, e2]; exact h) (.inl (by omega))
    simp only [e1, e2] at k
    exact k.mono fun e w' ⟨a1, c1, a2, c2, he, o1, o2, hb⟩ => ⟨a1, c1, a2, c2, he, o1.rd, o2.rd, hb⟩
theorem digits9 (u : Nat) (a : Option Addr) (ca : Nat) (w : World) (hu : (dg 1000000000 u).length ≤ 100000) (ha : Rd w .u32 a (dg 1000000000 u)) (htab : Tab w) :
    Calls Tryz.prog 55 #[.slice a (dg 1000000000 u).length ca] w fun e w' => e = .returned (.int .i64 (dl u : Nat)) ∧ Below w.heap.size w w' := by
  have h := Digits_any a ca (dg 1000000000 u) w (by omega) (lo9 u) ha htab
  rw [vl_dg (by omega)] at h
  exact h
theorem isWhole_any (s : Bool) (a : Option Addr) (n c : Nat) (e : Int) (w : World) : Calls Tryz.prog 54 #[.agg #[.bool s, .slice a n c, .int .i64 e]] w fun r w' => r = .returned (.bool (decide (0 ≤ e))) ∧ Below w.heap.size w w' := by
  go_enter Tryz.func54, Tryz.ntmps54
  go_wp2
  go_ret
  exact ⟨rfl, (Below.refl _ _).alloc (Nat.le_refl _) _⟩
theorem isOdd_any (v : Nat) (a : Option Addr) (c : Nat) (w : World) (hr : Rd w .u32 a (dg 1000000000 v)) : Calls Tryz.prog 107 #[.slice a (dg 1000000000 v).length c] w fun r w' => r = .returned (.bool (decide (v % 2 = 1))) ∧ w = w' := by
  rcases Nat.eq_zero_or_pos v with h0 | h0
  · subst h0
    rw [dg_zero]
    go_enter Tryz.func107, Tryz.ntmps107
    go_wp2
    go_ret
    exact ⟨rfl, rfl⟩
  · have hp : 0 < (dg 1000000000 v).length := by rw [dg_pos (by omega) h0]; simp
    obtain ⟨b, off, rfl, hc⟩ := hr 0 hp
    have e0 : (dg 1000000000 v)[0]?.getD 0 = v % 1000000000 := by rw [dg_pos (by omega) h0]; rfl
    rw [e0, Nat.add_zero] at hc
    obtain ⟨x, hx⟩ : ∃ x, x = v % 1000000000 := ⟨_, rfl⟩
    rw [← hx] at hc
    have e2 : decide (v % 2 = 1) = decide (x % 2 = 1) := by rw [hx]; congr 1; exact propext ⟨fun _ => by omega, fun _ => by omega⟩
    rw [e2]
    have hxl : x < 1000000000 := by rw [hx]; omega
    generalize (dg 1000000000 v).length = n at *
    clear hx e0 e2 hr h0
    rcases Nat.mod_two_eq_zero_or_one x with h | h
    · have q1 : ((x : Int) % 2 == 1) = false := by rw [beq_eq_false_iff_ne]; omega
      have q2 : ¬ (x : Int) % 2 = 1 := by omega
      rw [show decide (x % 2 = 1) = false from decide_eq_false (by omega)]
      clear h
      go_enter Tryz.func107, Tryz.ntmps107
      go_wp2
      go_ret
      exact ⟨rfl, rfl⟩
    · have q1 : ((x : Int) % 2 == 1) = true := by rw [beq_iff_eq]; omega
      have q2 : (x : Int) % 2 = 1 := by omega
      rw [show decide (x % 2 = 1) = true from decide_eq_true h]
      clear h
      go_enter Tryz.func107, Tryz.ntmps107
      go_wp2
      go_ret
      exact ⟨rfl, rfl⟩
theorem offCell {w : World} {g i j : Nat} {x v : Value} (hij : i ≠ j) (h : w.cell? ⟨g, j, none⟩ = some v) : (w.setCell ⟨g, i, none⟩ x).cell? ⟨g, j, none⟩ = some v := by
  rw [World.cell?_setCell_other]
  · exact h
  · intro e
    simp only [Addr.mk.injEq, true_and, and_true] at e
    exact hij e
theorem keep3 {w : World} {g : Nat} {a : Option Addr} {l : List Nat} {x0 x1 x2 : Value} (u0 : w.cell? ⟨g, 0, none⟩ = some (.slice none 0 0)) (u1 : w.cell? ⟨g, 1, none⟩ = some (.slice none 0 0)) (u2 : w.cell? ⟨g, 2, none⟩ = some (.slice none 0 0)) (h : Rd w .u32 a l) :
    Rd (((w.setCell ⟨g, 0, none⟩ x0).setCell ⟨g, 1, none⟩ x1).setCell ⟨g, 2, none⟩ x2) .u32 a l := by
  have n0 : ∀ n : Int, Value.slice none 0 0 ≠ .int .u32 n := fun n e => by cases e
  have e1 : (w.setCell ⟨g, 0, none⟩ x0).cell? ⟨g, 1, none⟩ = some (.slice none 0 0) := offCell (by omega) u1
  have e2 : ((w.setCell ⟨g, 0, none⟩ x0).setCell ⟨g, 1, none⟩ x1).cell? ⟨g, 2, none⟩ = some (.slice none 0 0) := offCell (by omega) (offCell (by omega) u2)
  exact Rd.setOther (Rd.setOther (Rd.setOther h u0 n0) e1 n0) e2 n0
/-- what a division tells: three slices -/
def ResQ (u v : Nat) (b : Option Addr) (cb : Nat) (w : World) (r : Ending) (w' : World) : Prop := ∃ a1 c1 a2 c2, r = .returned (.agg #[.slice a1 (dg 1000000000 (u / v)).length c1, .slice a2 (dg 1000000000 (u % v)).length c2, .slice b (dg 1000000000 v).length cb]) ∧
  Rd w' .u32 a1 (dg 1000000000 (u / v)) ∧ Rd w' .u32 a2 (dg 1000000000 (u % v)) ∧ Below w.heap.size w w'
theorem divide_any (u v : Nat) (a b : Option Addr) (ca cb : Nat) (w : World) (hu : (dg 1000000000 u).length ≤ 100000) (hv : (dg 1000000000 v).length ≤ 100000) (h0 : 0 < v) (ha : Rd w .u32 a (dg 1000000000 u)) (hb : Rd w .u32 b (dg 1000000000 v)) :
    Calls Tryz.prog 72 #[.slice a (dg 1000000000 u).length ca, .slice b (dg 1000000000 v).length cb] w (ResQ u v b cb w) := by
  have hD := fun W hbl => divmod9 u v a b ca cb W hu hv h0 (ha.below' (w' := W) hbl (Nat.le_refl _)) (hb.below' (w' := W) hbl (Nat.le_refl _))
  have HD := Lib.hid hD
  clear hD ha hb hu hv h0
  go_enter Tryz.func72, Tryz.ntmps72
  go_wp2_with fail
  refine (HD.out _ ((Below.refl _ _).alloc (Nat.le_refl _) _)).mono ?_
  rintro r w2 ⟨a1, c1, a2, c2, rfl, r1, r2, hbl⟩
  have u0 : w2.cell? ⟨w.heap.size, 0, none⟩ = some (.slice none 0 0) := by rw [hbl.cell (by simp)]; simp
  have u1 : w2.cell? ⟨w.heap.size, 1, none⟩ = some (.slice none 0 0) := by rw [hbl.cell (by simp)]; simp
  have u2 : w2.cell? ⟨w.heap.size, 2, none⟩ = some (.slice none 0 0) := by rw [hbl.cell (by simp)]; simp
  have uf : ∀ j, w2.frozen? ⟨w.heap.size, j, none⟩ = false := fun j => by rw [hbl.frozen (by simp)]; simp
  have hb2 := ((Below.refl w.heap.size w).alloc (Nat.le_refl _) (.cells #[.slice none 0 0, .slice none 0 0, .slice none 0 0] 95)).trans (hbl.mono (by simp))
  have R1 := Lib.hid r1; have R2 := Lib.hid r2; have HB := Lib.hid hb2
  clear hbl r1 r2 hb2
  have keep := fun (a : Option Addr) (l : List Nat) (x0 x1 x2 : Value) (h : Rd w2 .u32 a l) => keep3 (x0 := x0) (x1 := x1) (x2 := x2) u0 u1 u2 h
  have KP := Lib.hid keep
  clear keep
  go_wp2
  refine bodyPost_ret (v := .agg #[.slice a1 (dg 1000000000 (u / v)).length c1, .slice a2 (dg 1000000000 (u % v)).length c2, .slice b (dg 1000000000 v).length cb]) (by simp [results, Tryz.results72, go_sem, u0, u1, u2]) rfl ?_
  exact ⟨a1, c1, a2, c2, rfl, KP.out _ _ _ _ _ R1.out, KP.out _ _ _ _ _ R2.out, ((HB.out.setCell (Nat.le_refl _) _).setCell (Nat.le_refl _) _).setCell (Nat.le_refl _) _⟩

theorem Whole_any (s : Bool) (a : Option Addr) (c : Nat) (l : List Nat) (e : Int) (w : World) (hl : l.length ≤ 9223372036854775807) (hlo : Lo 4294967296 l) (hr : Rd w .u32 a l) (htab : Tab w) :
    Calls Tryz.prog 25 #[.agg #[.bool s, .slice a l.length c, .int .i64 e]] w fun r w' => r = .returned (.bool (decide ((normA l.length s (vl 1000000000 l) e).err = 0) && decide (0 ≤ (normA l.length s (vl 1000000000 l) e).p.e))) ∧ Below w.heap.size w w' := by
  have hN := fun W hb => DNorm_any s a c l e W hl hlo (hr.below' (w' := W) hb (Nat.le_refl _)) (htab.below hb)
  generalize normA l.length s (vl 1000000000 l) e = A at *
  have HN := Lib.hid hN
  clear hN hr htab hlo
  by_cases h0 : A.err = 0
  · have h1 : ((A.err : Int) == 0) = true := by simp [h0]
    have hw := fun a c W => isWhole_any A.p.neg a (dg 1000000000 A.p.m).length c A.p.e W
    rw [show decide (A.err = 0) = true from decide_eq_true h0, Bool.true_and]
    generalize decide (0 ≤ A.p.e) = bb at *
    have HW := Lib.hid hw
    clear hw h0
    go_enter Tryz.func25, Tryz.ntmps25
    have hb1 := (Below.refl w.heap.size w).alloc (Nat.le_refl _) (.cells #[.bool s, .slice a l.length c, .int .i64 e] 24)
    have B1 := Lib.hid hb1
    clear hb1
    go_wp2_with fail
    refine (HN.out _ B1.out).mono ?_
    rintro r w2 ⟨a2, c2, rfl, ho2, hb2⟩
    have hb3 := (B1.out.trans (hb2.mono B1.out.size)).alloc (Nat.le_trans B1.out.size hb2.size) (.cells #[.bool A.p.neg, .slice a2 (dg 1000000000 A.p.m).length c2, .int .i64 A.p.e] 24)
    have B3 := Lib.hid hb3
    clear hb2 ho2 hb3
    go_wp2_with fail
    refine (HW.out _ _ _).mono ?_
    rintro r w3 ⟨rfl, hb4⟩
    have B4 := Lib.hid (B3.out.trans (hb4.mono B3.out.size))
    clear hb4
    go_wp2
    go_ret
    exact ⟨rfl, B4.out⟩
  · have h1 : ((A.err : Int) == 0) = false := by rw [beq_eq_false_iff_ne]; omega
    have h2 : ¬ (A.err : Int) = 0 := by omega
    rw [show decide (A.err = 0) = false from decide_eq_false h0, Bool.false_and]
    clear h0
    go_enter Tryz.func25, Tryz.ntmps25
    have hb1 := (Below.refl w.heap.size w).alloc (Nat.le_refl _) (.cells #[.bool s, .slice a l.length c, .int .i64 e] 24)
    have B1 := Lib.hid hb1
    clear hb1
    go_wp2_with fail
    refine (HN.out _ B1.out).mono ?_
    rintro r w2 ⟨a2, c2, rfl, ho2, hb2⟩
    have hb3 := (B1.out.trans (hb2.mono B1.out.size)).alloc (Nat.le_trans B1.out.size hb2.size) (.cells #[.bool A.p.neg, .slice a2 (dg 1000000000 A.p.m).length c2, .int .i64 A.p.e] 24)
    have B3 := Lib.hid hb3
    clear hb2 ho2 hb3
    go_wp2
    go_ret
    exact ⟨rfl, B3.out⟩
theorem units_any (p : Pl) (hin : inR p = true) (k : Nat) (hk : p.e = k) (hk2 : k ≤ 30000) (a : Option Addr) (c : Nat) (w : World) (hr : Rd w .u32 a (dg 1000000000 p.m)) :
    Calls Tryz.prog 44 #[.agg #[.bool p.neg, .slice a (dg 1000000000 p.m).length c, .int .i64 p.e]] w fun r w' => ∃ a' c', r = .returned (.slice a' (dg 1000000000 (p.m * 10 ^ k)).length c') ∧ Rd w' .u32 a' (dg 1000000000 (p.m * 10 ^ k)) ∧ Below w.heap.size w w' := by
  have h9 := dg9_few' (m := p.m) (inR_bounds hin).1
  have hS := fun W hb => shift_int p.m a c k hk W hk2 (by omega) (hr.below' (w' := W) hb (Nat.le_refl _))
  have HS := Lib.hid hS
  clear hS hr hin h9 hk
  go_enter Tryz.func44, Tryz.ntmps44
  go_wp2_with fail
  refine (HS.out _ ((Below.refl _ _).alloc (Nat.le_refl _) _)).mono ?_
  rintro r w2 ⟨a2, c2, rfl, ho2, hb2⟩
  have B2 := Lib.hid (((Below.refl w.heap.size w).alloc (Nat.le_refl _) (.cells #[.bool p.neg, .slice a (dg 1000000000 p.m).length c, .int .i64 p.e] 24)).trans (hb2.mono (by simp)))
  have R2 := Lib.hid ho2.rd
  clear ho2 hb2
  go_wp2
  go_ret
  exact ⟨a2, c2, rfl, R2.out, B2.out⟩
end Go.Proofs.YtimfpgpomafflaaGreatDoor
