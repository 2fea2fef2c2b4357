/- Walks of dec: slices.Equal, isPlain, May. -/
import Derived.Test.YtofeckdhhaoobaaDoorDecF
namespace Go.Proofs.YtofeckdhhaoobaaDoor
open Go.RowKit LM

set_option maxHeartbeats 1000000 in
theorem Equal_any (a b : Option Addr) (ca cb : Nat) (l m : List Nat) (w : World) (hl : l.length ≤ 9223372036854775807) (hm : m.length ≤ 9223372036854775807) (ha : Rd w .u32 a l) (hb : Rd w .u32 b m) :
    Calls Tryd.prog 72 #[.slice a l.length ca, .slice b m.length cb] w fun e w' => e = .returned (.bool (decide (l = m))) ∧ Below w.heap.size w w' := by
  go_enter Tryd.func72, Tryd.ntmps72
  by_cases hlen : l.length = m.length
  · have HL := Lib.hid hlen
    have h1 : l.length ≤ m.length := by omega
    have h2 : m.length ≤ l.length := by omega
    clear hlen
    go_wp2
    go_loopw [13] (fun i wr => ∃ k : Nat, k ≤ l.length ∧ Hid (l.take k = m.take k) ∧ i = .int .i64 k ∧ Below w.heap.size w wr) (fun i _ => l.length - (intOf i).toNat)
    case atStart => exact ⟨0, Nat.zero_le _, (by simp : l.take 0 = m.take 0), rfl, Below.refl _ _⟩
    case round =>
      obtain ⟨k, hk, HT, rfl, hbl⟩ := hrel
      by_cases hlt : k < l.length
      · obtain ⟨b1, o1, e1, c1⟩ := ha.below hbl k hlt
        obtain ⟨b2, o2, e2, c2⟩ := hb.below hbl k (by omega)
        subst e1 e2
        go_wp2
        go_region
        all_goals go_wp2
        · have h : (((l[k] : Nat) : Int) != ((m[k]?.getD 0 : Nat) : Int)) = true := by assumption
          go_ret
          exact ⟨ret_bool (by symm; rw [decide_eq_false_iff_not]; intro e; subst e; simp [hlt] at h), hbl.drew⟩
        · have h : (((l[k] : Nat) : Int) != ((m[k]?.getD 0 : Nat) : Int)) = false := by assumption
          go_roundw
          case rel => exact ⟨k + 1, by omega, same_step (by omega) (by omega) HT.out (by simp at h; simp [hlt]; omega), by go_num, hbl.drew⟩
          case measure => simp [intOf]; omega
      · go_wp2
        go_ret
        refine ⟨ret_bool ?_, hbl⟩
        have e := HT.out
        rw [List.take_of_length_le (by omega), List.take_of_length_le (by omega)] at e
        symm; rw [decide_eq_true_eq]; exact e
  · go_wp2
    go_ret
    exact ⟨ret_bool (by simp; intro h; exact hlen (by rw [h])), Below.refl _ _⟩

def plainB (s : Bool) (l : List Nat) (e : Int) : Bool := if l.length = 0 then decide (e = 0) && !s else decide (l[0]?.getD 0 % 10 ≠ 0) && decide (l = dg 1000000000 (vl 1000000000 l))

set_option maxHeartbeats 4000000 in
theorem isPlain_any (s : Bool) (a : Option Addr) (c : Nat) (l : List Nat) (e : Int) (w : World) (hl : l.length ≤ 1000000) (hlo : Lo 4294967296 l) (hrd : Rd w .u32 a l) :
    Calls Tryd.prog 38 #[.agg #[.bool s, .slice a l.length c, .int .i64 e]] w fun r w' => r = .returned (.bool (plainB s l e)) ∧ Below w.heap.size w w' := by
  rcases Nat.eq_zero_or_pos l.length with h0 | h0
  · have hp : plainB s l e = (decide (e = 0) && !s) := by unfold plainB; rw [if_pos h0]
    rw [h0]
    by_cases he : e = 0
    · have hv : plainB s l e = !s := by rw [hp]; simp [he]
      have heB : (e == 0) = true := by simpa using he
      have HV := Lib.hid hv
      clear hv hp h0 hl hlo hrd he
      go_enter Tryd.func38, Tryd.ntmps38
      go_wp2
      go_ret
      exact ⟨ret_bool HV.out.symm, (Below.refl _ _).alloc (Nat.le_refl _) _⟩
    · have hv : plainB s l e = false := by rw [hp]; simp [he]
      have heB : (e == 0) = false := by simpa using he
      have HV := Lib.hid hv
      clear hv hp h0 hl hlo hrd he
      go_enter Tryd.func38, Tryd.ntmps38
      go_wp2
      go_ret
      exact ⟨ret_bool HV.out.symm, (Below.refl _ _).alloc (Nat.le_refl _) _⟩
  · have hp : plainB s l e = (decide (l[0]?.getD 0 % 10 ≠ 0) && decide (l = dg 1000000000 (vl 1000000000 l))) := by unfold plainB; rw [if_neg (by omega)]
    have HP := Lib.hid hp
    have hnB : ((l.length : Int) == 0) = false := by rw [beq_eq_false_iff_ne]; omega
    obtain ⟨b, off, x, e1, HX, hx, hc⟩ := hrd.get hlo 0 h0
    subst e1
    rw [Nat.add_zero] at hc
    have hN := fun W hb => Norm_any (some ⟨b, off, none⟩) c l W (by omega) hlo (hrd.below' (w' := W) hb (Nat.le_refl _))
    have hE := fun W a2 c2 hb (h2 : Rd W .u32 a2 (dg 1000000000 (vl 1000000000 l))) => Equal_any (some ⟨b, off, none⟩) a2 c c2 l (dg 1000000000 (vl 1000000000 l)) W (by omega) (by have := nlen hlo; omega) (hrd.below' hb (Nat.le_refl _)) h2
    have HN := Lib.hid hN; have HE := Lib.hid hE
    clear hp hN hE hrd hlo
    by_cases hm : x % 10 = 0
    · have hv : plainB s l e = false := by rw [HP.out, ← HX.out]; simp [hm]
      have hmB : ((x : Int) % 10 != 0) = false := by rw [bne_eq_false_iff_eq]; omega
      have hmT : ((x : Int).tmod 10 != 0) = false := by rw [Int.tmod_eq_emod_of_nonneg (by omega)]; exact hmB
      have HV := Lib.hid hv
      clear hv hm
      go_enter Tryd.func38, Tryd.ntmps38
      have k1 : (w.alloc (.cells #[.bool s, .slice (some ⟨b, off, none⟩) l.length c, .int .i64 e] 24)).cell? ⟨w.heap.size, 1, none⟩ = some (.slice (some ⟨b, off, none⟩) l.length c) := by simp
      have kc := cellB hc ((Below.refl _ _).alloc (Nat.le_refl _) (.cells #[.bool s, .slice (some ⟨b, off, none⟩) l.length c, .int .i64 e] 24))
      have bb := (Below.refl w.heap.size w).alloc (Nat.le_refl _) (.cells #[.bool s, .slice (some ⟨b, off, none⟩) l.length c, .int .i64 e] 24)
      go_wp2_with fail
      generalize w.alloc (.cells #[.bool s, .slice (some ⟨b, off, none⟩) l.length c, .int .i64 e] 24) = w1 at *
      go_quiet (fail)
      go_wp2
      go_ret
      exact ⟨ret_bool HV.out.symm, bdN bb _⟩
    · have hv : plainB s l e = decide (l = dg 1000000000 (vl 1000000000 l)) := by rw [HP.out, ← HX.out]; simp [hm]
      have hmB : ((x : Int) % 10 != 0) = true := by rw [bne_iff_ne]; omega
      have hmT : ((x : Int).tmod 10 != 0) = true := by rw [Int.tmod_eq_emod_of_nonneg (by omega)]; exact hmB
      have HV := Lib.hid hv
      clear hv hm
      go_enter Tryd.func38, Tryd.ntmps38
      have k1 : (w.alloc (.cells #[.bool s, .slice (some ⟨b, off, none⟩) l.length c, .int .i64 e] 24)).cell? ⟨w.heap.size, 1, none⟩ = some (.slice (some ⟨b, off, none⟩) l.length c) := by simp
      have kc := cellB hc ((Below.refl _ _).alloc (Nat.le_refl _) (.cells #[.bool s, .slice (some ⟨b, off, none⟩) l.length c, .int .i64 e] 24))
      have bb := (Below.refl w.heap.size w).alloc (Nat.le_refl _) (.cells #[.bool s, .slice (some ⟨b, off, none⟩) l.length c, .int .i64 e] 24)
      go_wp2_with fail
      generalize w.alloc (.cells #[.bool s, .slice (some ⟨b, off, none⟩) l.length c, .int .i64 e] 24) = w1 at *
      go_region_held3 (fun w' => w'.cell? ⟨w.heap.size, 1, none⟩ = some (.slice (some ⟨b, off, none⟩) l.length c) ∧ w'.cell? ⟨b, off, none⟩ = some (.int .u32 (x : Int))) (first | go_keep | exact ⟨i1, ic⟩ | exact ⟨j1, jc⟩)
        (first
          | (go_at_call 34; refine (HN.out _ bb.drew).mono ?_; rintro e w2 ⟨a2, c2, rfl, ho2, hb2⟩; have hb3 := (Below.refl w1.heap.size w1).drew.trans hb2; have bb2 := bb.trans (hb3.mono bb.size); have i1 := cellB k1 hb3; have ic := cellB kc hb3)
          | (go_at_call 72; refine (HE.out _ a2 c2 bb2 ho2.rd).mono ?_; rintro e w4 ⟨rfl, hb4⟩; have bb4 := bb2.trans (hb4.mono bb2.size); have j1 := cellB i1 hb4; have jc := cellB ic hb4))
      all_goals go_wp2
      all_goals go_ret
      all_goals exact ⟨ret_bool HV.out.symm, bb4⟩
end Go.Proofs.YtofeckdhhaoobaaDoor
