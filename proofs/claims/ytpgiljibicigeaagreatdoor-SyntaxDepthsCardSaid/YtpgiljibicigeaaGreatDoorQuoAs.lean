/- quote's reader: its box; peek, take, fault, digitOf, unit walked. -/
import Derived.Test.YtpgiljibicigeaaGreatDoorUtfMaths
import Derived.Test.YtpgiljibicigeaaGreatDoorUtfCs
import Derived.Test.YtpgiljibicigeaaGreatDoorLimbKits
import Derived.Deep.QuietTactic
import Derived.BigQuiet
import Derived.IntWalk
import Derived.Laws.BitsAllLaws
import Derived.Lib.OthersKept
import Derived.Lib.ItoaMem
import Derived.Laws.RangeAny
import Derived.Laws.IdiomStrings
import Derived.Laws.BytesArg
set_option linter.unusedVariables false
set_option linter.unusedSimpArgs false
namespace Go.Proofs.YtpgiljibicigeaaGreatDoor
open Go.RowKit UM QM

theorem Rd.gbc {w w' : World} {k : IntKind} {a : Option Addr} {l : List Nat} {g : Nat} (h : Rd w k a l) (hg : w.grownBy w' (some g)) (hne : 0 < l.length → Apart a g) : Rd w' k a l := fun j hj => (Rd.gb h hg (hne (by omega))) j hj
theorem Rd.slot {w : World} {k : IntKind} {a : Option Addr} {l : List Nat} (h : Rd w k a l) (hp : 0 < l.length) : ∀ b off, a = some ⟨b, off, none⟩ → b < w.heap.size := fun b off e => by
  obtain ⟨b', off', e', hc⟩ := h 0 hp
  rw [e] at e'; cases e'
  exact lt_of_cell hc
/-- a reader's box, over the bytes l -/
def RB (w : World) (g : Nat) (a : Option Addr) (cap : Nat) (l : List Nat) (k err : Nat) : Prop :=
  w.cell? ⟨g, 0, none⟩ = some (.slice a l.length cap) ∧ w.cell? ⟨g, 1, none⟩ = some (.int .i64 (k : Int)) ∧ w.cell? ⟨g, 2, none⟩ = some (.int .i64 (err : Int)) ∧ (∀ j, w.frozen? ⟨g, j, none⟩ = false) ∧ Rd w .u8 a l ∧ (0 < l.length → Apart a g) ∧ k ≤ l.length ∧ l.length ≤ 140737488353000 ∧ LM.Lo 256 l ∧ l.length ≤ cap ∧ Sh w ∧ ¬ 0 = g
theorem RB.dN {w : World} {g : Nat} {a : Option Addr} {cap : Nat} {l : List Nat} {k err : Nat} (h : RB w g a cap l k err) (n : Nat) : RB (w.drewN n) g a cap l k err := h
theorem gb_dN {w wr : World} {row : Option Nat} (h : w.grownBy wr row) (n : Nat) : w.grownBy (wr.drewN n) row := ⟨h.os, h.tape, h.output, h.size, h.block⟩
theorem Sh.gb {w w' : World} {r : Nat} (h : Sh w) (hg : w.grownBy w' (some r)) (hne : ¬ 0 = r) : Sh w' := by
  obtain ⟨a, b, c, d, e, f, g, h, i, j, k, l⟩ := h
  have key : ∀ (o : Nat) (v : Value), w.cell? ⟨0, o, none⟩ = some v → w'.cell? ⟨0, o, none⟩ = some v := fun o v h => hg.cell h (by intro e2; exact hne (by simpa using e2))
  exact ⟨key _ _ a, key _ _ b, key _ _ c, key _ _ d, key _ _ e, key _ _ f, key _ _ g, key _ _ h, key _ _ i, key _ _ j, key _ _ k, key _ _ l⟩
theorem RB.put {w : World} {g : Nat} {a : Option Addr} {cap : Nat} {l : List Nat} {k err : Nat} (h : RB w g a cap l k err) (k' : Nat) (hk : k' ≤ l.length) {v : Int} (hv : v = (k' : Int)) : RB (w.setCell ⟨g, 1, none⟩ (.int .i64 v)) g a cap l k' err := by
  subst hv
  obtain ⟨h0, h1, h2, hf, hr, ha, hk2, hl, hlo, hcp, hsh, hsn⟩ := h
  refine ⟨by simp [go_sem, h0], by simp [go_sem, h1], by simp [go_sem, h2], fun j => by simp [go_sem, hf j], Rd.gbc hr (gb_set (gb_refl w (some g)) 1 _) ha, ha, hk, hl, hlo, hcp, hsh.gb (gb_set (gb_refl w (some g)) 1 _) hsn, hsn⟩
def ResP (g : Nat) (a : Option Addr) (cap : Nat) (l : List Nat) (r : Int × Bool × Nat) (w : World) (e : Ending) (w' : World) : Prop :=
  e = .returned (.tuple #[.int .i64 r.1, .bool r.2.1]) ∧ RB w' g a cap l r.2.2 0 ∧ w.grownBy w' (some g)

set_option maxRecDepth 100000 in
set_option maxHeartbeats 1000000 in
theorem peek_any (g : Nat) (a : Option Addr) (cap : Nat) (l : List Nat) (k err : Nat) (w : World) (h : RB w g a cap l k err) :
    Calls Tryz.prog 98 #[.pointer (some ⟨g, 0, none⟩)] w fun e w' => e = .returned (.int .i64 (pk l k)) ∧ ∃ n, w' = w.drewN n := by
  obtain ⟨h0, h1, h2, hf, hr, ha, hk, hl, hlo, _⟩ := h
  have HR := Lib.hid hr
  have HLo := Lib.hid hlo
  clear h2 hf ha hr hlo
  by_cases hlt : k < l.length
  · have hp : pk l k = ((l[k]?.getD 0 : Nat) : Int) := if_pos hlt
    obtain ⟨b, off, x, ea, HX, hx, hc⟩ := HR.out.get HLo.out k hlt
    rw [hp, ← HX.out]
    subst ea
    clear hp HR HLo
    go_enter Tryz.func98, Tryz.ntmps98
    go_wp2
    go_quiet (fail)
    go_wp2
    go_quiet (fail)
    go_wp2
    go_ret
    exact ⟨rfl, _, World.drewN_drewN _ _ _⟩
  · have hp : pk l k = -1 := if_neg hlt
    rw [hp]
    clear hp HR HLo
    go_enter Tryz.func98, Tryz.ntmps98
    go_wp2
    go_quiet (fail)
    go_wp2
    go_ret
    exact ⟨rfl, _, rfl⟩
def ResT2 (g : Nat) (a : Option Addr) (cap : Nat) (l : List Nat) (k : Nat) (b : Bool) (w : World) (e : Ending) (w' : World) : Prop :=
  e = .returned (.bool b) ∧ RB w' g a cap l k 0 ∧ w.grownBy w' (some g)
set_option maxRecDepth 100000 in
set_option maxHeartbeats 1000000 in
theorem take_yes (c : Int) (g : Nat) (a : Option Addr) (cap : Nat) (l : List Nat) (k : Nat) (w : World) (h : RB w g a cap l k 0) (hc : pk l k = c) (hn : c ≠ -1) :
    Calls Tryz.prog 88 #[.pointer (some ⟨g, 0, none⟩), .int .i64 c] w (ResT2 g a cap l (k + 1) true w) := by
  have HP := Lib.hid (peek_any g a cap l k 0 w h)
  have hlt : k < l.length := pk_pos (by rw [hc]; exact hn)
  have HB := Lib.hid h
  have hl := h.2.2.2.2.2.2.2.1
  obtain ⟨h0, h1, h2, hf, _⟩ := h
  rw [hc] at HP
  clear hc hn h0 h2
  go_enter Tryz.func88, Tryz.ntmps88
  go_wp2_with (refine HP.out.mono ?_; rintro e w1 ⟨rfl, n, rfl⟩)
  go_ret
  exact ⟨rfl, (HB.out.dN _).put (k + 1) (by omega) (by omega), gb_set (gb_dN (gb_refl _ _) _) _ _⟩
set_option maxRecDepth 100000 in
set_option maxHeartbeats 1000000 in
theorem take_no (c : Int) (g : Nat) (a : Option Addr) (cap : Nat) (l : List Nat) (k : Nat) (w : World) (h : RB w g a cap l k 0) (hc : pk l k ≠ c) :
    Calls Tryz.prog 88 #[.pointer (some ⟨g, 0, none⟩), .int .i64 c] w (ResT2 g a cap l k false w) := by
  have HP := Lib.hid (peek_any g a cap l k 0 w h)
  have HB := Lib.hid h
  have ht : (pk l k != c) = true := by simp [hc]
  clear hc h
  generalize pk l k = p at *
  go_enter Tryz.func88, Tryz.ntmps88
  go_wp2_with (refine HP.out.mono ?_; rintro e w1 ⟨rfl, n, rfl⟩)
  go_ret
  exact ⟨rfl, HB.out.dN _, gb_dN (gb_refl _ _) _⟩
set_option maxRecDepth 100000 in
set_option maxHeartbeats 1000000 in
theorem fault_any (g : Nat) (a : Option Addr) (cap : Nat) (l : List Nat) (k err : Nat) (w : World) (h : RB w g a cap l k err) :
    Calls Tryz.prog 89 #[.pointer (some ⟨g, 0, none⟩)] w fun e w' => e = .returned (.int .i64 (faultF l k : Nat)) ∧ ∃ n, w' = w.drewN n := by
  have HP := Lib.hid (peek_any g a cap l k err w h)
  clear h
  unfold faultF
  generalize pk l k = p at *
  by_cases h1 : p = -1
  · rw [if_pos h1]
    subst h1
    go_enter Tryz.func89, Tryz.ntmps89
    go_wp2_with (refine HP.out.mono ?_; rintro e w1 ⟨rfl, n, rfl⟩)
    go_ret
    exact ⟨rfl, _, rfl⟩
  · rw [if_neg h1]
    have ht : (p == -1) = false := by simp [h1]
    clear h1
    by_cases h2 : 127 < p
    · rw [if_pos h2]
      go_enter Tryz.func89, Tryz.ntmps89
      go_wp2_with (refine HP.out.mono ?_; rintro e w1 ⟨rfl, n, rfl⟩)
      go_ret
      exact ⟨rfl, _, rfl⟩
    · rw [if_neg h2]
      go_enter Tryz.func89, Tryz.ntmps89
      go_wp2_with (refine HP.out.mono ?_; rintro e w1 ⟨rfl, n, rfl⟩)
      go_ret
      exact ⟨rfl, _, rfl⟩
def digR (c : Int) : Int × Bool := match dgv c with | none => (0, false) | some d => ((d : Nat), true)
set_option maxRecDepth 100000 in
set_option maxHeartbeats 1000000 in
theorem digitOf_any (c : Int) (hc : -1 ≤ c) (hc2 : c < 256) (w : World) :
    Calls Tryz.prog 128 #[.int .i64 c] w fun e w' => e = .returned (.tuple #[.int .i64 (digR c).1, .bool (digR c).2]) ∧ w = w' := by
  unfold digR dgv
  by_cases a1 : 48 ≤ c ∧ c ≤ 57
  · rw [if_pos a1]
    obtain ⟨a1, a2⟩ := a1
    go_enter Tryz.func128, Tryz.ntmps128
    go_wp2
    go_ret2
    exact ⟨by congr 3; simp; omega, rfl⟩
  · rw [if_neg a1]
    by_cases b1 : 97 ≤ c ∧ c ≤ 102
    · rw [if_pos b1]
      obtain ⟨b1, b2⟩ := b1
      go_enter Tryz.func128, Tryz.ntmps128
      go_wp2
      go_ret2
      exact ⟨by congr 3; simp; omega, rfl⟩
    · rw [if_neg b1]
      by_cases d1 : 65 ≤ c ∧ c ≤ 70
      · rw [if_pos d1]
        obtain ⟨d1, d2⟩ := d1
        have a2 : ¬ c ≤ 57 := by omega
        have b2 : ¬ 97 ≤ c := by omega
        go_enter Tryz.func128, Tryz.ntmps128
        go_wp2
        go_ret2
        exact ⟨by congr 3; simp; omega, rfl⟩
      · rw [if_neg d1]
        by_cases a2 : 48 ≤ c
        all_goals by_cases b2 : 97 ≤ c
        all_goals by_cases d2 : 65 ≤ c
        all_goals first
          | (exfalso; omega)
          | (have a3 : 48 ≤ c → ¬ c ≤ 57 := by omega
             have b3 : 97 ≤ c → ¬ c ≤ 102 := by omega
             have d3 : 65 ≤ c → ¬ c ≤ 70 := by omega
             clear a1 b1 d1
             go_enter Tryz.func128, Tryz.ntmps128
             first
               | (have a4 := a3 a2; have b4 := b3 b2; have d4 := d3 d2; clear a3 b3 d3; go_wp2)
               | (have a4 := a3 a2; have d4 := d3 d2; clear a3 b3 d3; go_wp2)
               | (have a4 := a3 a2; clear a3 b3 d3; go_wp2)
               | (clear a3 b3 d3; go_wp2)
             go_ret2
             exact ⟨rfl, rfl⟩)
end Go.Proofs.YtpgiljibicigeaaGreatDoor

/- quote's reader: unit, low, coded, escaped walked. -/
namespace Go.Proofs.YtpgiljibicigeaaGreatDoor
open Go.RowKit UM QM

theorem pk_bd {l : List Nat} (hlo : LM.Lo 256 l) (k : Nat) : -1 ≤ pk l k ∧ pk l k < 256 := by
  unfold pk
  by_cases h : k < l.length
  · rw [if_pos h]
    have : l[k]?.getD 0 < 256 := by have := hlo (l[k]) (List.getElem_mem h); simpa [h] using this
    omega
  · rw [if_neg h]; omega
theorem or16 (h d : Nat) (hh : h < 65536) (hd : d < 16) : bits BinOp.or IntKind.i64 ((h : Int) * 16) (d : Int) = ((h * 16 + d : Nat) : Int) := by
  have e1 : ((h : Int) * 16) = ((h * 16 : Nat) : Int) := by omega
  rw [e1]
  have j : h * 16 ||| d = h * 16 + d := nat_join 4 (h * 16) d (by omega) hd
  have x1 : (BitVec.ofInt 64 ((h * 16 : Nat) : Int)).toNat = h * 16 := by rw [BitVec.ofInt_natCast, BitVec.toNat_ofNat]; exact Nat.mod_eq_of_lt (by omega)
  have x2 : (BitVec.ofInt 64 ((d : Nat) : Int)).toNat = d := by rw [BitVec.ofInt_natCast, BitVec.toNat_ofNat]; exact Nat.mod_eq_of_lt (by omega)
  show IntKind.i64.wrap ((BitVec.ofInt 64 ((h * 16 : Nat) : Int) ||| BitVec.ofInt 64 ((d : Nat) : Int)).toNat : Int) = _
  rw [BitVec.toNat_or, x1, x2, j, IntWalk.i64_in _ (by omega)]
set_option maxRecDepth 100000 in
set_option maxHeartbeats 2000000 in
theorem unit_any (g : Nat) (a : Option Addr) (cap : Nat) (l : List Nat) (k : Nat) (w : World) (h : RB w g a cap l k 0) :
    Calls Tryz.prog 119 #[.pointer (some ⟨g, 0, none⟩)] w (ResP g a cap l (un l k) w) := by
  have HB := Lib.hid h
  clear h
  go_enter Tryz.func119, Tryz.ntmps119
  go_wp2
  go_loopw [4, 7] (fun s4 s7 wr => ∃ i k' h : Nat, i ≤ 4 ∧ s7 = .int .i64 i ∧ s4 = .int .i64 h ∧ h < 16 ^ i ∧ Hid (unitF l (4 - i) k' h = un l k) ∧ Hid (RB wr g a cap l k' 0) ∧ Hid (w.grownBy wr (some g))) (fun _ s7 _ => 4 - (intOf s7).toNat)
  case atStart => exact ⟨0, k, 0, by omega, rfl, rfl, by omega, Lib.hid rfl, HB, Lib.hid (gb_refl _ _)⟩
  case round =>
    obtain ⟨i, k', h, hi, rfl, rfl, hh, HU, HR, HG⟩ := hrel
    by_cases hlt : i < 4
    · have HP := Lib.hid (peek_any g a cap l k' 0 wr HR.out)
      have hbd := pk_bd HR.out.2.2.2.2.2.2.2.2.1 k'
      have HD := Lib.hid (fun W => digitOf_any (pk l k') hbd.1 hbd.2 W)
      have hk2 := HR.out.2.2.2.2.2.2.1
      have hl2 := HR.out.2.2.2.2.2.2.2.1
      have hu := HU.out
      rw [show 4 - i = (4 - (i + 1)) + 1 by omega] at hu
      simp only [unitF] at hu
      have hpk := fun d => dgv_pk (l := l) (k := k') (d := d)
      have h4 : h < 4096 := Nat.lt_of_lt_of_le hh (by have : 16 ^ i ≤ 16 ^ 3 := Nat.pow_le_pow_right (by omega) (by omega); simpa using this)
      unfold digR at HD
      generalize pk l k' = p at *
      clear hbd
      cases hd : dgv p with
      | none =>
        rw [hd] at HD hu
        have HU2 := Lib.hid hu
        clear hd hu hpk
        go_wp2_with (first | ((with_reducible refine HP.out.mono ?_); rintro e w1 ⟨rfl, n, rfl⟩) | ((with_reducible refine (HD.out _).mono ?_); rintro e w1 ⟨rfl, rfl⟩))
        go_ret2
        refine ⟨by rw [← HU2.out]; rfl, ?_, gb_dN HG.out _⟩
        rw [← HU2.out]; exact HR.out.dN _
      | some d =>
        have hlt2 := hpk d hd
        have hd16 := dgv_lt hd
        rw [hd] at HD hu
        have HU2 := Lib.hid hu
        clear hd hu hpk
        obtain ⟨h0, h1, h2, hf, _⟩ := HR.out
        have ho := or16 h d (by omega) hd16
        have hsh : IntKind.i64.wrap ((h : Int) * 16) = (h : Int) * 16 := IntWalk.i64_in _ (by omega)
        clear h0 h2
        go_wp2_with (first | ((with_reducible refine HP.out.mono ?_); rintro e w1 ⟨rfl, n, rfl⟩) | ((with_reducible refine (HD.out _).mono ?_); rintro e w1 ⟨rfl, rfl⟩))
        go_roundw
        case rel => exact ⟨i + 1, k' + 1, h * 16 + d, by omega, by go_num, by first | rfl | (congr 1; omega) | (rw [ho]), by rw [Nat.pow_succ]; omega, HU2, Lib.hid ((HR.out.dN _).put (k' + 1) (by omega) (by omega)), Lib.hid (gb_set (gb_dN HG.out _) _ _)⟩
        case measure => simp [intOf]; omega
    · have h4 : i = 4 := by omega
      subst h4
      have hu := HU.out
      simp only [Nat.sub_self, unitF] at hu
      have HU2 := Lib.hid hu
      clear hu
      go_wp2
      go_ret2
      refine ⟨by rw [← HU2.out]; rfl, ?_, HG.out⟩
      rw [← HU2.out]; exact HR.out

theorem RB.facts {w : World} {g : Nat} {a : Option Addr} {cap : Nat} {l : List Nat} {k err : Nat} (h : RB w g a cap l k err) : k ≤ l.length ∧ l.length ≤ 140737488353000 ∧ LM.Lo 256 l := ⟨h.2.2.2.2.2.2.1, h.2.2.2.2.2.2.2.1, h.2.2.2.2.2.2.2.2.1⟩
set_option maxRecDepth 100000 in
set_option maxHeartbeats 2000000 in
theorem low_any (g : Nat) (a : Option Addr) (cap : Nat) (l : List Nat) (k : Nat) (w : World) (h : RB w g a cap l k 0) :
    Calls Tryz.prog 120 #[.pointer (some ⟨g, 0, none⟩)] w (ResP g a cap l (lowF l k) w) := by
  have HB := Lib.hid h
  clear h
  by_cases h1 : pk l k = 92
  · have HT := Lib.hid (take_yes 92 g a cap l k w HB.out h1 (by decide))
    by_cases h2 : pk l (k + 1) = 117
    · have HT2 := Lib.hid (fun W r => take_yes 117 g a cap l (k + 1) W r h2 (by decide))
      have HU := Lib.hid (fun W r => unit_any g a cap l (k + 1 + 1) W r)
      have hr : lowF l k = ((un l (k + 2)).1, (un l (k + 2)).2.1 && decide (56320 ≤ (un l (k + 2)).1) && decide ((un l (k + 2)).1 ≤ 57343), (un l (k + 2)).2.2) := by
        unfold lowF; rw [if_neg (by simp [h1]), if_neg (by simp [h2])]
      have hlt := un_lt l (k + 2)
      rw [hr]
      unfold ResP at HU
      rw [show k + 1 + 1 = k + 2 from rfl] at HU
      generalize un l (k + 2) = U at *
      obtain ⟨u1, u2, u3⟩ := U
      clear hr h1 h2
      cases u2
      all_goals
        by_cases g1 : 56320 ≤ u1
        all_goals by_cases g2 : u1 ≤ 57343
        all_goals
          go_enter Tryz.func120, Tryz.ntmps120
          go_wp2_with (first | ((with_reducible refine HT.out.mono ?_); rintro e w1 ⟨rfl, hb, hg⟩; have H1 := Lib.hid hb; have G1 := Lib.hid hg; clear hb hg) | ((with_reducible refine (HT2.out _ H1.out).mono ?_); rintro e w2 ⟨rfl, hb, hg⟩; have H2 := Lib.hid hb; have G2 := Lib.hid (gb_trans G1.out hg); clear hb hg) | ((with_reducible refine (HU.out _ H2.out).mono ?_); rintro e w3 ⟨rfl, hb, hg⟩; have H3 := Lib.hid hb; have G3 := Lib.hid (gb_trans G2.out hg); clear hb hg))
          all_goals (go_ret2; exact ⟨by simp [g1, g2], H3.out, G3.out⟩)
    · have HT2 := Lib.hid (fun W r => take_no 117 g a cap l (k + 1) W r h2)
      have hr : lowF l k = (0, false, k + 1) := by unfold lowF; rw [if_neg (by simp [h1]), if_pos h2]
      rw [hr]
      clear hr h1 h2
      go_enter Tryz.func120, Tryz.ntmps120
      go_wp2_with (first | ((with_reducible refine HT.out.mono ?_); rintro e w1 ⟨rfl, hb, hg⟩; have H1 := Lib.hid hb; have G1 := Lib.hid hg; clear hb hg) | ((with_reducible refine (HT2.out _ H1.out).mono ?_); rintro e w2 ⟨rfl, hb, hg⟩; have H2 := Lib.hid hb; have G2 := Lib.hid (gb_trans G1.out hg); clear hb hg))
      go_ret2
      exact ⟨rfl, H2.out, G2.out⟩
  · have HT := Lib.hid (take_no 92 g a cap l k w HB.out h1)
    have hr : lowF l k = (0, false, k) := by unfold lowF; rw [if_pos h1]
    rw [hr]
    clear hr h1
    go_enter Tryz.func120, Tryz.ntmps120
    go_wp2_with ((with_reducible refine HT.out.mono ?_); rintro e w1 ⟨rfl, hb, hg⟩; have H1 := Lib.hid hb; have G1 := Lib.hid hg; clear hb hg)
    go_ret2
    exact ⟨rfl, H1.out, G1.out⟩
set_option maxRecDepth 100000 in
set_option maxHeartbeats 2000000 in
theorem coded_any (g : Nat) (a : Option Addr) (cap : Nat) (l : List Nat) (k : Nat) (w : World) (h : RB w g a cap l k 0) :
    Calls Tryz.prog 111 #[.pointer (some ⟨g, 0, none⟩)] w (ResP g a cap l (codedF l k) w) := by
  have HU := Lib.hid (unit_any g a cap l k w h)
  clear h
  have hlt := un_lt l k
  unfold codedF
  unfold ResP at HU
  generalize un l k = U at *
  obtain ⟨u1, u2, u3⟩ := U
  cases u2
  · rw [if_pos rfl]
    go_enter Tryz.func111, Tryz.ntmps111
    go_wp2_with ((with_reducible refine HU.out.mono ?_); rintro e w1 ⟨rfl, hb, hg⟩; have H1 := Lib.hid hb; have G1 := Lib.hid hg; clear hb hg)
    go_ret2
    exact ⟨rfl, H1.out, G1.out⟩
  · rw [if_neg (by simp)]
    simp only at hlt ⊢
    by_cases c1 : u1 < 55296 ∨ 57343 < u1
    · rw [if_pos c1]
      rcases c1 with c1 | c1
      · go_enter Tryz.func111, Tryz.ntmps111
        go_wp2_with ((with_reducible refine HU.out.mono ?_); rintro e w1 ⟨rfl, hb, hg⟩; have H1 := Lib.hid hb; have G1 := Lib.hid hg; clear hb hg)
        go_ret2
        exact ⟨rfl, H1.out, G1.out⟩
      · have c2 : ¬ u1 < 55296 := by omega
        go_enter Tryz.func111, Tryz.ntmps111
        go_wp2_with ((with_reducible refine HU.out.mono ?_); rintro e w1 ⟨rfl, hb, hg⟩; have H1 := Lib.hid hb; have G1 := Lib.hid hg; clear hb hg)
        go_ret2
        exact ⟨rfl, H1.out, G1.out⟩
    · rw [if_neg c1]
      have c2 : ¬ u1 < 55296 := by omega
      have c3 : ¬ 57343 < u1 := by omega
      clear c1
      by_cases c4 : 56320 ≤ u1
      · rw [if_pos c4]
        go_enter Tryz.func111, Tryz.ntmps111
        go_wp2_with ((with_reducible refine HU.out.mono ?_); rintro e w1 ⟨rfl, hb, hg⟩; have H1 := Lib.hid hb; have G1 := Lib.hid hg; clear hb hg)
        go_ret2
        exact ⟨rfl, H1.out, G1.out⟩
      · rw [if_neg c4]
        have HL := Lib.hid (fun W r => low_any g a cap l u3 W r)
        unfold ResP at HL
        have hlo : (lowF l u3).2.1 = true → 56320 ≤ (lowF l u3).1 ∧ (lowF l u3).1 ≤ 57343 := by
          unfold lowF
          split
          · simp
          · split
            · simp
            · simp; omega
        generalize lowF l u3 = L at *
        obtain ⟨l1, l2, l3⟩ := L
        cases l2
        · rw [if_neg (by simp)]
          clear hlo
          go_enter Tryz.func111, Tryz.ntmps111
          go_wp2_with fail
          refine HU.out.mono ?_
          rintro e w1 ⟨rfl, hb, hg⟩
          have H1 := Lib.hid hb; have G1 := Lib.hid hg
          obtain ⟨k0, k1, k2, kf, _⟩ := hb
          clear hg k0 k2
          go_wp2_with fail
          clear k1 kf
          refine (HL.out _ H1.out).mono ?_
          rintro e w2 ⟨rfl, hb, hg⟩
          have H2 := Lib.hid hb; have G2 := Lib.hid (gb_trans G1.out hg)
          obtain ⟨k0, k1, k2, kf, _⟩ := hb
          clear hg k0 k2
          go_wp2
          go_ret2
          exact ⟨rfl, H2.out.put u3 H1.out.facts.1 rfl, gb_set G2.out _ _⟩
        · rw [if_pos rfl]
          obtain ⟨q1, q2⟩ := hlo rfl
          simp only at q1 q2
          clear hlo
          go_enter Tryz.func111, Tryz.ntmps111
          go_wp2_with fail
          refine HU.out.mono ?_
          rintro e w1 ⟨rfl, hb, hg⟩
          have H1 := Lib.hid hb; have G1 := Lib.hid hg
          obtain ⟨k0, k1, k2, kf, _⟩ := hb
          clear hg k0 k2
          go_wp2_with fail
          clear k1 kf
          refine (HL.out _ H1.out).mono ?_
          rintro e w2 ⟨rfl, hb, hg⟩
          have H2 := Lib.hid hb; have G2 := Lib.hid (gb_trans G1.out hg)
          obtain ⟨k0, k1, k2, kf, _⟩ := hb
          clear hg k0 k2
          go_wp2
          go_ret2
          exact ⟨by first | rfl | (congr 3; done) | (congr 3; simp; done) | (congr 3; simp; omega), H2.out, G2.out⟩

set_option maxRecDepth 100000 in
set_option maxHeartbeats 4000000 in
theorem escaped_any (g : Nat) (a : Option Addr) (cap : Nat) (l : List Nat) (k : Nat) (w : World) (h : RB w g a cap l k 0) :
    Calls Tryz.prog 100 #[.pointer (some ⟨g, 0, none⟩)] w (ResP g a cap l (escF l k) w) := by
  have HP := Lib.hid (peek_any g a cap l k 0 w h)
  have HB := Lib.hid h
  have hf := h.facts
  have hpos := pk_pos (l := l) (k := k)
  obtain ⟨h0, h1, h2, hfz, _⟩ := h
  have HC := Lib.hid (fun W r => coded_any g a cap l (k + 1) W r)
  unfold ResP at HC
  unfold escF
  generalize codedF l (k + 1) = C at *
  obtain ⟨q1, q2, q3⟩ := C
  obtain ⟨hk, hl, hlo⟩ := hf
  have bd := pk_bd hlo k
  generalize pk l k = p at *
  clear h0 h2 hlo
  have hne : p ≠ -1 → k + 1 ≤ l.length := fun h => hpos h
  by_cases e34 : p = 34
  · subst e34
    have hk1 := hne (by decide)
    clear hne hpos
    show Calls _ _ _ _ (ResP g a cap l (34, true, k + 1) w)
    go_enter Tryz.func100, Tryz.ntmps100
    go_wp2_with (refine HP.out.mono ?_; rintro e w1 ⟨rfl, n, rfl⟩)
    go_ret2
    exact ⟨rfl, (HB.out.dN _).put (k + 1) (by omega) (by omega), gb_set (gb_dN (gb_refl _ _) _) _ _⟩
  by_cases e92 : p = 92
  · subst e92
    have hk1 := hne (by decide)
    clear hne hpos
    show Calls _ _ _ _ (ResP g a cap l (92, true, k + 1) w)
    go_enter Tryz.func100, Tryz.ntmps100
    go_wp2_with (refine HP.out.mono ?_; rintro e w1 ⟨rfl, n, rfl⟩)
    go_ret2
    exact ⟨rfl, (HB.out.dN _).put (k + 1) (by omega) (by omega), gb_set (gb_dN (gb_refl _ _) _) _ _⟩
  by_cases e47 : p = 47
  · subst e47
    have hk1 := hne (by decide)
    clear hne hpos
    show Calls _ _ _ _ (ResP g a cap l (47, true, k + 1) w)
    go_enter Tryz.func100, Tryz.ntmps100
    go_wp2_with (refine HP.out.mono ?_; rintro e w1 ⟨rfl, n, rfl⟩)
    go_ret2
    exact ⟨rfl, (HB.out.dN _).put (k + 1) (by omega) (by omega), gb_set (gb_dN (gb_refl _ _) _) _ _⟩
  by_cases e98 : p = 98
  · subst e98
    have hk1 := hne (by decide)
    clear hne hpos
    show Calls _ _ _ _ (ResP g a cap l (8, true, k + 1) w)
    go_enter Tryz.func100, Tryz.ntmps100
    go_wp2_with (refine HP.out.mono ?_; rintro e w1 ⟨rfl, n, rfl⟩)
    go_ret2
    exact ⟨rfl, (HB.out.dN _).put (k + 1) (by omega) (by omega), gb_set (gb_dN (gb_refl _ _) _) _ _⟩
  by_cases e102 : p = 102
  · subst e102
    have hk1 := hne (by decide)
    clear hne hpos
    show Calls _ _ _ _ (ResP g a cap l (12, true, k + 1) w)
    go_enter Tryz.func100, Tryz.ntmps100
    go_wp2_with (refine HP.out.mono ?_; rintro e w1 ⟨rfl, n, rfl⟩)
    go_ret2
    exact ⟨rfl, (HB.out.dN _).put (k + 1) (by omega) (by omega), gb_set (gb_dN (gb_refl _ _) _) _ _⟩
  by_cases e110 : p = 110
  · subst e110
    have hk1 := hne (by decide)
    clear hne hpos
    show Calls _ _ _ _ (ResP g a cap l (10, true, k + 1) w)
    go_enter Tryz.func100, Tryz.ntmps100
    go_wp2_with (refine HP.out.mono ?_; rintro e w1 ⟨rfl, n, rfl⟩)
    go_ret2
    exact ⟨rfl, (HB.out.dN _).put (k + 1) (by omega) (by omega), gb_set (gb_dN (gb_refl _ _) _) _ _⟩
  by_cases e114 : p = 114
  · subst e114
    have hk1 := hne (by decide)
    clear hne hpos
    show Calls _ _ _ _ (ResP g a cap l (13, true, k + 1) w)
    go_enter Tryz.func100, Tryz.ntmps100
    go_wp2_with (refine HP.out.mono ?_; rintro e w1 ⟨rfl, n, rfl⟩)
    go_ret2
    exact ⟨rfl, (HB.out.dN _).put (k + 1) (by omega) (by omega), gb_set (gb_dN (gb_refl _ _) _) _ _⟩
  by_cases e116 : p = 116
  · subst e116
    have hk1 := hne (by decide)
    clear hne hpos
    show Calls _ _ _ _ (ResP g a cap l (9, true, k + 1) w)
    go_enter Tryz.func100, Tryz.ntmps100
    go_wp2_with (refine HP.out.mono ?_; rintro e w1 ⟨rfl, n, rfl⟩)
    go_ret2
    exact ⟨rfl, (HB.out.dN _).put (k + 1) (by omega) (by omega), gb_set (gb_dN (gb_refl _ _) _) _ _⟩
  by_cases e117 : p = 117
  · subst e117
    have hk1 := hne (by decide)
    clear hne hpos
    show Calls _ _ _ _ (ResP g a cap l (q1, q2, q3) w)
    have HB2 := Lib.hid ((HB.out.dN 0).put (k + 1) (by omega) rfl)
    go_enter Tryz.func100, Tryz.ntmps100
    go_wp2_with fail
    refine HP.out.mono ?_
    rintro e w1 ⟨rfl, n, rfl⟩
    go_wp2_with fail
    refine (HC.out _ ((HB.out.dN _).put (k + 1) (by omega) (by omega))).mono ?_
    rintro e w2 ⟨rfl, hb, hg⟩
    have G2 := Lib.hid (gb_trans (gb_set (gb_dN (gb_refl w (some g)) n) 1 _) hg)
    have H2 := Lib.hid hb
    clear hb hg
    go_wp2
    go_ret2
    exact ⟨rfl, H2.out, G2.out⟩
  rw [if_neg (by omega), if_neg e98, if_neg e102, if_neg e110, if_neg e114, if_neg e116, if_neg e117]
  have t34 : (p == 34) = false := by simp [e34]
  have t92 : (p == 92) = false := by simp [e92]
  have t47 : (p == 47) = false := by simp [e47]
  have t98 : (p == 98) = false := by simp [e98]
  have t102 : (p == 102) = false := by simp [e102]
  have t110 : (p == 110) = false := by simp [e110]
  have t114 : (p == 114) = false := by simp [e114]
  have t116 : (p == 116) = false := by simp [e116]
  have t117 : (p == 117) = false := by simp [e117]
  clear e34 e92 e47 e98 e102 e110 e114 e116 e117 hne hpos HC
  go_enter Tryz.func100, Tryz.ntmps100
  go_wp2_with (refine HP.out.mono ?_; rintro e w1 ⟨rfl, n, rfl⟩)
  go_ret2
  exact ⟨rfl, HB.out.dN _, gb_dN (gb_refl _ _) _⟩
end Go.Proofs.YtpgiljibicigeaaGreatDoor

/- Texts of lists; Encode, Explode, Clean, Implode of the program. -/
namespace Go.Proofs.YtpgiljibicigeaaGreatDoor
open Go.RowKit UM

/-- the text of bytes -/
def tx (l : List Nat) : ByteArray := ⟨(l.map UInt8.ofNat).toArray⟩
theorem tx_list (l : List Nat) : (tx l).data.toList = l.map UInt8.ofNat := rfl
theorem bl_tx {l : List Nat} (h : ∀ x ∈ l, x < 256) : bl (tx l) = l := by
  unfold bl
  rw [tx_list, List.map_map]
  conv => rhs; rw [← List.map_id l]
  refine List.map_congr_left fun x hx => ?_
  show (UInt8.ofNat x).toNat = x
  rw [UInt8.toNat_ofNat']
  exact Nat.mod_eq_of_lt (h x hx)
theorem tx_bl (s : ByteArray) : tx (bl s) = s := bl_inj (bl_tx (bl_lo s))
theorem tx_size (l : List Nat) : (tx l).size = l.length := by
  show ((l.map UInt8.ofNat).toArray).size = _
  rw [List.size_toArray, List.length_map]
/-- a row of the call's own as a text -/
theorem conv_tx {P : Program} (w : World) (src dst e : TypeId) (B cap : Nat) (ao : Option Addr) (l : List Nat) (n : Nat) (hs : P.underlying src = some (.slice e)) (he : P.underlying e = some (.int .u8)) (hd : P.underlying dst = some .string)
    (hown : Own w B e .u8 ao cap l) (hlo : ∀ x ∈ l, x < 256) (hn : n = l.length) :
    (convert src dst (.slice ao n cap)).run P w = .ok (.string (tx l)) w := by
  subst hn
  rcases hown.shape with ⟨h1, h2, h3⟩ | ⟨g, h1, _⟩
  · subst h1 h2 h3
    rw [List.length_nil, run_convert_bytes_string w src dst e none 0 0 hs he hd]
    rfl
  · subst h1
    have hl : l.length = (l.map UInt8.ofNat).length := by rw [List.length_map]
    rw [hl]
    refine run_convert_bytes_back w src dst e ⟨g, 0, none⟩ cap (l.map UInt8.ofNat) hs he hd (fun j hj => ?_)
    have hj' : j < l.length := by rw [List.length_map] at hj; exact hj
    rw [Lib.add_plain, Nat.zero_add, hown.cell j hj']
    have h4 : l[j] < 256 := hlo _ (List.getElem_mem hj')
    simp [hj', Nat.mod_eq_of_lt h4]
theorem iterAt_apart {w : World} {K p p2 : Nat} {s : ByteArray} (_ : w.heap[K]? = some (.stringIter s p)) : w.grownBy (w.iterAt K s p2) (some K) :=
  ⟨rfl, rfl, rfl, by rw [Lib.iterAt_size]; exact Nat.le_refl _, fun i _ hne => Lib.iterAt_other w K i s p2 (by intro e; exact hne (by rw [e]))⟩
/-- what stands while a text is gone through: the iterator, a row of the call's own, the rest as it was -/
structure UI (s : ByteArray) (B : Nat) (w0 : World) (K : Nat) (e : TypeId) (k : IntKind) (wr : World) (pos : Nat) (ao : Option Addr) (cap : Nat) (L : List Nat) : Prop where
  it : wr.heap[K]? = some (.stringIter s pos)
  own : Own wr B e k ao cap L
  bw : Below B w0 wr
  kb : B ≤ K
  hB : B ≤ w0.heap.size
theorem UI.iter {s : ByteArray} {B : Nat} {w0 : World} {K : Nat} {e : TypeId} {k : IntKind} {wr : World} {pos : Nat} {ao : Option Addr} {cap : Nat} {L : List Nat} (h : UI s B w0 K e k wr pos ao cap L) (p : Nat) : UI s B w0 K e k (wr.iterAt K s p) p ao cap L :=
  ⟨Lib.iterAt_heap wr _ s pos p h.it, h.own.gb (iterAt_apart h.it) (h.own.noIter h.it), Lib.below_iterAt h.bw h.kb s p, h.kb, h.hB⟩
theorem it_less {w w' : World} {k pos p2 : Nat} {s : ByteArray} (h : w.heap[k]? = some (.stringIter s pos)) (h' : w'.heap[k]? = some (.stringIter s p2)) (h1 : pos < s.size) (h2 : pos < p2) : s.size - w'.iterPos k < s.size - w.iterPos k := by
  simp only [World.iterPos, h, h']; omega
/-- a text's next code point -/
theorem next_pt (s : ByteArray) (pos : Nat) (h : pos < s.size) : ∃ c wd : Nat, Hid (Utf8.decode s pos = (c, wd)) ∧ Hid (dcd ((bl s).drop pos) = (c, wd, (dcd ((bl s).drop pos)).2.2)) ∧ c ≤ 1114111 ∧ 1 ≤ wd ∧ pos + wd ≤ s.size ∧ Hid (Pt c) ∧ Hid (xp ((bl s).drop pos) = c :: xp ((bl s).drop (pos + wd))) := by
  have hne : (bl s).drop pos ≠ [] := by
    intro e
    have := congrArg List.length e
    simp only [List.length_drop, bl_len, List.length_nil] at this; omega
  have hw := dcd_wd hne
  have hp := dcd_pt ((bl s).drop pos)
  have hx := xp_cons hne
  rw [List.drop_drop] at hx
  rw [List.length_drop, bl_len] at hw
  exact ⟨(dcd ((bl s).drop pos)).1, (dcd ((bl s).drop pos)).2.1, Lib.hid (decode_dcd s pos h), Lib.hid rfl, hp.1, hw.1, by omega, Lib.hid hp, Lib.hid hx⟩
end Go.Proofs.YtpgiljibicigeaaGreatDoor
