/- parens: the small methods of a vector; Rank, Excess. -/
import Derived.Test.YtelagemniheeoaaDoorParA
import Derived.Deep.RegionHeld3
import Derived.Deep.RegionLaw
import Derived.Deep.DeepCutAuto
namespace Go.Proofs.YtelagemniheeoaaDoor
open Go.RowKit BM

theorem shift_any (d : Nat) (w : World) : Calls Tryd.prog 52 #[.int .i64 d] w fun e w' => e = .returned (.int .i64 (if d = 0 then 6 else 3)) ∧ w = w' := by
  by_cases h : d = 0
  · subst h
    go_enter Tryd.func52, Tryd.ntmps52
    go_wp2
    go_ret
    exact ⟨rfl, rfl⟩
  · rw [if_neg h]
    have h2 : ((d : Int) == 0) = false := by simp; omega
    go_enter Tryd.func52, Tryd.ntmps52
    go_wp2
    go_ret
    exact ⟨rfl, rfl⟩
/-- a pointer to a vector of n bits, or to none -/
def LenIs (w : World) (p : Option Addr) (n : Nat) : Prop := (p = none ∧ n = 0) ∨ ∃ b, p = some ⟨b, 0, none⟩ ∧ w.cell? ⟨b, 1, none⟩ = some (.int .i64 n)
theorem LenIs.below {w w' : World} {p : Option Addr} {n : Nat} (h : LenIs w p n) (hb : Below w.heap.size w w') : LenIs w' p n := by
  rcases h with h | ⟨b, h1, h2⟩
  · exact .inl h
  · exact .inr ⟨b, h1, cellP hb h2⟩
theorem VX.len {w : World} {b : Nat} {v : VD} (h : VX w b v) : LenIs w (some ⟨b, 0, none⟩) v.n := .inr ⟨b, rfl, h.1.2.1⟩
theorem Len_any (p : Option Addr) (n : Nat) (w : World) (h : LenIs w p n) : Calls Tryd.prog 13 #[.pointer p] w fun e w' => e = .returned (.int .i64 n) ∧ w = w' := by
  rcases h with ⟨rfl, rfl⟩ | ⟨b, rfl, hc⟩
  · go_enter Tryd.func13, Tryd.ntmps13
    go_wp2
    go_ret
    exact ⟨rfl, rfl⟩
  · go_enter Tryd.func13, Tryd.ntmps13
    go_wp2
    go_ret
    exact ⟨rfl, rfl⟩
/-- a place, brought in -/
def clp (n : Nat) (i : Int) : Nat := min i.toNat n
theorem clip_any (p : Option Addr) (n : Nat) (i : Int) (hn : n ≤ 1125899906842624) (w : World) (h : LenIs w p n) : Calls Tryd.prog 38 #[.pointer p, .int .i64 i] w fun e w' => e = .returned (.int .i64 (clp n i)) ∧ w = w' := by
  have HL := Lib.hid (Len_any p n w h)
  have e : ((clp n i : Nat) : Int) = min (max i 0) n := by unfold clp; omega
  rw [e]
  clear h e
  go_enter Tryd.func38, Tryd.ntmps38
  go_wp2_with (refine HL.out.mono ?_; rintro e w' ⟨rfl, rfl⟩)
  all_goals go_ret
  all_goals exact ⟨ret_int (by omega), rfl⟩
def hasB (n : Nat) (i : Int) : Bool := decide (0 ≤ i) && decide (i < n)
theorem has_any (p : Option Addr) (n : Nat) (i : Int) (w : World) (h : LenIs w p n) : Calls Tryd.prog 37 #[.pointer p, .int .i64 i] w fun e w' => e = .returned (.bool (hasB n i)) ∧ w = w' := by
  have HL := Lib.hid (Len_any p n w h)
  clear h
  by_cases h0 : 0 ≤ i
  · by_cases h1 : i < n
    · rw [show hasB n i = true by simp [hasB, h0, h1]]
      go_enter Tryd.func37, Tryd.ntmps37
      go_wp2_with (refine HL.out.mono ?_; rintro e w' ⟨rfl, rfl⟩)
      go_ret
      exact ⟨rfl, rfl⟩
    · rw [show hasB n i = false by simp [hasB, h1]]
      go_enter Tryd.func37, Tryd.ntmps37
      go_wp2_with (refine HL.out.mono ?_; rintro e w' ⟨rfl, rfl⟩)
      go_ret
      exact ⟨ret_bool (by simp [h1]), rfl⟩
  · rw [show hasB n i = false by simp [hasB, h0]]
    go_enter Tryd.func37, Tryd.ntmps37
    go_wp2_with (refine HL.out.mono ?_; rintro e w' ⟨rfl, rfl⟩)
    go_ret
    exact ⟨rfl, rfl⟩
/-- is there a bracket that opens? -/
def opn (f : Nat → Bool) (n : Nat) (i : Int) : Bool := hasB n i && f i.toNat
theorem Opens_no (p : Option Addr) (n : Nat) (i : Int) (w : World) (h : LenIs w p n) (hi : hasB n i = false) : Calls Tryd.prog 14 #[.pointer p, .int .i64 i] w fun e w' => e = .returned (.bool false) ∧ w = w' := by
  have hh := has_any p n i w h
  rw [hi] at hh
  have HL := Lib.hid hh
  clear h hh hi
  go_enter Tryd.func14, Tryd.ntmps14
  go_wp2_with (refine HL.out.mono ?_; rintro e w' ⟨rfl, rfl⟩)
  go_ret
  exact ⟨rfl, rfl⟩
theorem hasB_nat {n : Nat} {i : Int} (h : hasB n i = true) : ∃ k : Nat, i = k ∧ k < n := by
  simp [hasB] at h
  exact ⟨i.toNat, by omega, by omega⟩
theorem word_at {v : VD} (h : v.rok) {k : Nat} (hk : k < v.n) : ∃ x, v.ws[k / 64]? = some x ∧ v.f k = x.getLsbD (k % 64) := by
  have hl : k / 64 < v.ws.length := by rw [h.1]; omega
  refine ⟨v.ws[k / 64], List.getElem?_eq_getElem hl, ?_⟩
  unfold VD.f wb
  rw [List.getElem?_eq_getElem hl]
set_option maxHeartbeats 1000000 in
theorem Opens_any (b : Nat) (v : VD) (i : Int) (w : World) (h : VX w b v) (hv : v.rok) : Calls Tryd.prog 14 #[.pointer (some ⟨b, 0, none⟩), .int .i64 i] w fun e w' => e = .returned (.bool (opn v.f v.n i)) ∧ w = w' := by
  unfold opn
  by_cases hi : hasB v.n i = true
  · have hh := has_any _ v.n i w h.len
    rw [hi] at hh ⊢
    obtain ⟨k, rfl, hk⟩ := hasB_nat hi
    obtain ⟨x, hx, hf⟩ := word_at hv hk
    have hn := hv.2.1
    obtain ⟨wb0, off, ha, hc⟩ := h.2.1 _ _ (wv8_get hx)
    have c0 := h.1.1
    rw [ha] at c0
    have hl : k / 64 < v.ws.length := by rw [hv.1]; omega
    rw [Int.toNat_natCast, hf]
    have hb := bit_is x (k % 64)
    have HB := Lib.hid hb
    have HL := Lib.hid hh
    clear hi hh hx hf ha hb h hv
    generalize v.ws.length = nl at *
    generalize v.wc = ncap at *
    generalize v.n = vn at *
    clear v
    go_enter Tryd.func14, Tryd.ntmps14
    go_wp2_with (refine HL.out.mono ?_; rintro e w' ⟨rfl, rfl⟩)
    all_goals go_ret
    all_goals exact ⟨ret_bool (by rw [Bool.true_and, ← bitAt, ← HB.out]), rfl⟩
  · have hi' : hasB v.n i = false := by simpa using hi
    rw [hi']
    exact Opens_no _ v.n i w h.len hi'
end Go.Proofs.YtelagemniheeoaaDoor
