/- Walks of dec: slices.Equal, isPlain, May. -/
import Derived.Test.YtofeckdhhaoobaaDoorDecF
namespace Go.Proofs.YtofeckdhhaoobaaDoor
open Go.RowKit LM

set_option maxHeartbeats 1000000 in
theorem Equal_any (a b : Option Addr) (ca cb : Nat) (l m : List Nat) (w : World) (hl : l.length ≤ 9223372036854775807) (hm : m.length ≤ 9223372036854775807) (ha : Rd w .u32 a l) (hb : Rd w .u32 b m) :
    Calls Tryd.prog 72 #[.slice a l.length ca, .slice b m.length cb] w fun e w' => e = .returned (.bool (decide (l = m))) ∧ Below w.heap.size w w' := by
  go_enter Tryd.func72, Tryd.ntmps72
  by_cases hlen : l.length = m.length
  · have HL := Lib.hid hlen
    have h1 : l.length ≤ m.length := by omega
    have h2 : m.length ≤ l.length := by omega
    clear hlen
    go_wp2
    go_loopw [13] (fun i wr => ∃ k : Nat, k ≤ l.length ∧ Hid (l.take k = m.take k) ∧ i = .int .i64 k ∧ Below w.heap.size w wr) (fun i _ => l.length - (intOf i).toNat)
    case atStart => exact ⟨0, Nat.zero_le _, (by simp : l.take 0 = m.take 0), rfl, Below.refl _ _⟩
    case round =>
      obtain ⟨k, hk, HT, rfl, hbl⟩ := hrel
      by_cases hlt : k < l.length
      · obtain ⟨b1, o1, e1, c1⟩ := ha.below hbl k hlt
        obtain ⟨b2, o2, e2, c2⟩ := hb.below hbl k (by omega)
        subst e1 e2
        go_wp2
        go_region
        all_goals go_wp2
        · have h : (((l[k] : Nat) : Int) != ((m[k]?.getD 0 : Nat) : Int)) = true := by assumption
          go_ret
          exact ⟨ret_bool (by symm; rw [decide_eq_false_iff_not]; intro e; subst e; simp [hlt] at h), hbl.drew⟩
        · have h : (((l[k] : Nat) : Int) != ((m[k]?.getD 0 : Nat) : Int)) = false := by assumption
          go_roundw
          case rel => exact ⟨k + 1, by omega, same_step (by omega) (by omega) HT.out (by simp at h; simp [hlt]; omega), by go_num, hbl.drew⟩
          case measure => simp [intOf]; omega
      · go_wp2
        go_ret
        refine ⟨ret_bool ?_, hbl⟩
        have e := HT.out
        rw [List.take_of_length_le (by omega), List.take_of_length_le (by omega)] at e
        symm; rw [decide_eq_true_eq]; exact e
  · go_wp2
    go_ret
    exact ⟨ret_bool (by simp; intro h; exact hlen (by rw [h])), Below.refl _ _⟩

def plainB (s : Bool) (l : List Nat) (e : Int) : Bool := if l.length = 0 then decide (e = 0) && !s else decide (l[0]?.getD 0 % 10 ≠ 0) && decide (l = dg 1000000000 (vl 1000000000 l))

set_option maxHeartbeats 4000000 in
theorem isPlain_any (s : Bool) (a : Option Addr) (c : Nat) (l : List Nat) (e : Int) (w : World) (hl : l.length ≤ 1000000) (hlo : Lo 4294967296 l) (hrd : Rd w .u32 a l) :
    Calls Tryd.prog 38 #[.agg #[.bool s, .slice a l.length c, .int .i64 e]] w fun r w' => r = .returned (.bool (plainB s l e)) ∧ Below w.heap.size w w' := by
  rcases Nat.eq_zero_or_pos l.length with h0 | h0
  · have hp : plainB s l e = (decide (e = 0) && !s) := by unfold plainB; rw [if_pos h0]
    rw [h0]
    by_cases he : e = 0
    · have hv : plainB s l e = !s := by rw [hp]; simp [he]
      have heB : (e == 0) = true := by simpa using he
      have HV := Lib.hid hv
      clear hv hp h0 hl hlo hrd he
      go_enter Tryd.func38, Tryd.ntmps38
      go_wp2
      go_ret
      exact ⟨ret_bool HV.out.symm, (Below.refl _ _).alloc (Nat.le_refl _) _⟩
    · have hv : plainB s l e = false := by rw [hp]; simp [he]
      have heB : (e == 0) = false := by simpa using he
      have HV := Lib.hid hv
      clear hv hp h0 hl hlo hrd he
      go_enter Tryd.func38, Tryd.ntmps38
      go_wp2
      go_ret
      exact ⟨ret_bool HV.out.symm, (Below.refl _ _).alloc (Nat.le_refl _) _⟩
  · have hp : plainB s l e = (decide (l[0]?.getD 0 % 10 ≠ 0) && decide (l = dg 1000000000 (vl 1000000000 l))) := by unfold plainB; rw [if_neg (by omega)]
    have HP := Lib.hid hp
    have hnB : ((l.length : Int) == 0) = false := by rw [beq_eq_false_iff_ne]; omega
    obtain ⟨b, off, x, e1, HX, hx, hc⟩ := hrd.get hlo 0 h0
    subst e1
    rw [Nat.add_zero] at hc
    have hN := fun W hb => Norm_any (some ⟨b, off, none⟩) c l W (by omega) hlo (hrd.below' (w' := W) hb (Nat.le_refl _))
    have hE := fun W a2 c2 hb (h2 : Rd W .u32 a2 (dg 1000000000 (vl 1000000000 l))) => Equal_any (some ⟨b, off, none⟩) a2 c c2 l (dg 1000000000 (vl 1000000000 l)) W (by omega) (by have := nlen hlo; omega) (hrd.below' hb (Nat.le_refl _)) h2
    have HN := Lib.hid hN; have HE := Lib.hid hE
    clear hp hN hE hrd hlo
    by_cases hm : x % 10 = 0
    · have hv : plainB s l e = false := by rw [HP.out, ← HX.out]; simp [hm]
      have hmB : ((x : Int) % 10 != 0) = false := by rw [bne_eq_false_iff_eq]; omega
      have hmT : ((x : Int).tmod 10 != 0) = false := by rw [Int.tmod_eq_emod_of_nonneg (by omega)]; exact hmB
      have HV := Lib.hid hv
      clear hv hm
      go_enter Tryd.func38, Tryd.ntmps38
      have k1 : (w.alloc (.cells #[.bool s, .slice (some ⟨b, off, none⟩) l.length c, .int .i64 e] 24)).cell? ⟨w.heap.size, 1, none⟩ = some (.slice (some ⟨b, off, none⟩) l.length c) := by simp
      have kc := cellB hc ((Below.refl _ _).alloc (Nat.le_refl _) (.cells #[.bool s, .slice (some ⟨b, off, none⟩) l.length c, .int .i64 e] 24))
      have bb := (Below.refl w.heap.size w).alloc (Nat.le_refl _) (.cells #[.bool s, .slice (some ⟨b, off, none⟩) l.length c, .int .i64 e] 24)
      go_wp2_with fail
      generalize w.alloc (.cells #[.bool s, .slice (some ⟨b, off, none⟩) l.length c, .int .i64 e] 24) = w1 at *
      go_quiet (fail)
      go_wp2
      go_ret
      exact ⟨ret_bool HV.out.symm, bdN bb _⟩
    · have hv : plainB s l e = decide (l = dg 1000000000 (vl 1000000000 l)) := by rw [HP.out, ← HX.out]; simp [hm]
      have hmB : ((x : Int) % 10 != 0) = true := by rw [bne_iff_ne]; omega
      have hmT : ((x : Int).tmod 10 != 0) = true := by rw [Int.tmod_eq_emod_of_nonneg (by omega)]; exact hmB
      have HV := Lib.hid hv
      clear hv hm
      go_enter Tryd.func38, Tryd.ntmps38
      have k1 : (w.alloc (.cells #[.bool s, .slice (some ⟨b, off, none⟩) l.length c, .int .i64 e] 24)).cell? ⟨w.heap.size, 1, none⟩ = some (.slice (some ⟨b, off, none⟩) l.length c) := by simp
      have kc := cellB hc ((Below.refl _ _).alloc (Nat.le_refl _) (.cells #[.bool s, .slice (some ⟨b, off, none⟩) l.length c, .int .i64 e] 24))
      have bb := (Below.refl w.heap.size w).alloc (Nat.le_refl _) (.cells #[.bool s, .slice (some ⟨b, off, none⟩) l.length c, .int .i64 e] 24)
      go_wp2_with fail
      generalize w.alloc (.cells #[.bool s, .slice (some ⟨b, off, none⟩) l.length c, .int .i64 e] 24) = w1 at *
      go_region_held3 (fun w' => w'.cell? ⟨w.heap.size, 1, none⟩ = some (.slice (some ⟨b, off, none⟩) l.length c) ∧ w'.cell? ⟨b, off, none⟩ = some (.int .u32 (x : Int))) (first | go_keep | exact ⟨i1, ic⟩ | exact ⟨j1, jc⟩)
        (first
          | (go_at_call 34; refine (HN.out _ bb.drew).mono ?_; rintro e w2 ⟨a2, c2, rfl, ho2, hb2⟩; have hb3 := (Below.refl w1.heap.size w1).drew.trans hb2; have bb2 := bb.trans (hb3.mono bb.size); have i1 := cellB k1 hb3; have ic := cellB kc hb3)
          | (go_at_call 72; refine (HE.out _ a2 c2 bb2 ho2.rd).mono ?_; rintro e w4 ⟨rfl, hb4⟩; have bb4 := bb2.trans (hb4.mono bb2.size); have j1 := cellB i1 hb4; have jc := cellB ic hb4))
      all_goals go_wp2
      all_goals go_ret
      all_goals exact ⟨ret_bool HV.out.symm, bb4⟩
end Go.Proofs.YtofeckdhhaoobaaDoor

/- Walks of dec: May, of the program and of the document. -/
namespace Go.Proofs.YtofeckdhhaoobaaDoor
open Go.RowKit LM

theorem dg_len_9 (v : Nat) : (dg 1000000000 v).length ≤ (dg 10 v).length := by
  refine dg_len_of_lt (by omega) ?_
  exact Nat.lt_of_lt_of_le (dg_upper (b := 10) (by omega) v) (Nat.pow_le_pow_left (by omega) _)
theorem low_digit {l : List Nat} (h : 0 < l.length) : vl 1000000000 l % 10 = l[0]?.getD 0 % 10 := by
  cases l with
  | nil => simp at h
  | cons x t => simp only [vl, List.getElem?_cons_zero, Option.getD_some]; omega
theorem core_self {v : Nat} (h0 : 0 < v) (h : core v = v) : v % 10 ≠ 0 := by
  obtain ⟨c1, _⟩ := tz_spec v h0
  rw [h] at c1; exact c1
theorem pl_self {s : Bool} {v : Nat} {e : Int} (h : v % 10 ≠ 0) : pl s v e = ⟨s, v, e⟩ := by
  have := pl_of_plain (p := ⟨s, v, e⟩) (.inr h)
  exact this
theorem may_eq {s : Bool} {l : List Nat} {e : Int} :
    (nearB l.length e && (plainB s l e && inR ⟨s, vl 1000000000 l, e⟩)) = (decide ((normA l.length s (vl 1000000000 l) e).err = 0) && sameB (normA l.length s (vl 1000000000 l) e).p.neg s (normA l.length s (vl 1000000000 l) e).p.e e (dg 1000000000 (normA l.length s (vl 1000000000 l) e).p.m) l) := by
  unfold normA
  rcases hn : nearB l.length e with _ | _
  · simp
  · rw [if_pos rfl, Bool.true_and]
    rcases hp : plainB s l e with _ | _
    · rw [Bool.false_and]
      symm
      rw [Bool.eq_false_iff]
      intro h
      rw [Bool.and_eq_true, decide_eq_true_eq] at h
      obtain ⟨h1, h2⟩ := h
      unfold sameB at h2
      simp only [Bool.and_eq_true, decide_eq_true_eq, beq_iff_eq] at h2
      obtain ⟨g1, g2, g3⟩ := h2
      unfold tellA at h1 g1 g2 g3
      by_cases hin : inR (pl s (vl 1000000000 l) e) = true
      · rw [if_pos hin] at g1 g2 g3
        simp only at g1 g2 g3
        rcases Nat.eq_zero_or_pos (vl 1000000000 l) with h0 | h0
        · have hz : pl s (vl 1000000000 l) e = zP := by unfold pl; rw [if_pos h0]
          rw [hz] at g1 g2 g3
          have hl : l = [] := by rw [← g3]; exact dg_zero _
          subst hl
          have g1' : s = false := g1.symm
          have g2' : e = 0 := g2.symm
          subst g1' g2'
          unfold plainB at hp
          simp at hp
        · have hpl : pl s (vl 1000000000 l) e = ⟨s, core (vl 1000000000 l), e + tz (vl 1000000000 l)⟩ := by unfold pl; rw [if_neg (by omega)]
          rw [hpl] at g3
          have g3' : dg 1000000000 (core (vl 1000000000 l)) = l := g3
          have hv : vl 1000000000 l = core (vl 1000000000 l) := by
            have := congrArg (vl 1000000000) g3'
            rw [vl_dg (by omega)] at this; exact this.symm
          have hm := core_self h0 hv.symm
          have hlp : 0 < l.length := by
            rcases Nat.eq_zero_or_pos l.length with q | q
            · rw [List.eq_nil_of_length_eq_zero q] at h0; simp [vl] at h0
            · exact q
          have h3 : l = dg 1000000000 (vl 1000000000 l) := by rw [← hv] at g3'; exact g3'.symm
          unfold plainB at hp
          rw [if_neg (by omega), ← low_digit hlp, decide_eq_true hm, decide_eq_true h3] at hp
          simp at hp
      · rw [if_neg hin] at h1
        simp at h1
    · rw [Bool.true_and]
      unfold plainB at hp
      by_cases h0 : l.length = 0
      · rw [if_pos h0] at hp
        have hl := List.eq_nil_of_length_eq_zero h0
        subst hl
        simp at hp
        obtain ⟨rfl, rfl⟩ := hp
        have hz : tellA false 0 0 = ⟨0, zP⟩ := by
          have h1 : pl false 0 0 = zP := rfl
          unfold tellA; rw [h1, if_pos zP_in]
        show inR ⟨false, vl 1000000000 [], 0⟩ = _
        rw [vl_nil, hz]
        have : inR ⟨false, 0, 0⟩ = true := zP_in
        rw [this]
        have h3 : dg 1000000000 zP.m = [] := dg_zero _
        unfold sameB
        simp [zP]
        exact decide_eq_true (dg_zero _)
      · rw [if_neg h0] at hp
        simp only [Bool.and_eq_true, decide_eq_true_eq] at hp
        obtain ⟨hm, hl⟩ := hp
        rw [← low_digit (by omega)] at hm
        have hpl := pl_self (s := s) (e := e) hm
        unfold tellA
        rw [hpl]
        rcases hin : inR ⟨s, vl 1000000000 l, e⟩ with _ | _
        · simp
        · rw [if_pos rfl]
          unfold sameB
          simp [← hl]

set_option maxHeartbeats 4000000 in
theorem May_any (s : Bool) (a : Option Addr) (c : Nat) (l : List Nat) (e : Int) (w : World) (hl : l.length ≤ 9223372036854775807) (hlo : Lo 4294967296 l) (hrd : Rd w .u32 a l) (htab : Tab w) :
    Calls Tryd.prog 16 #[.agg #[.bool s, .slice a l.length c, .int .i64 e]] w fun r w' => r = .returned (.bool (nearB l.length e && (plainB s l e && inR ⟨s, vl 1000000000 l, e⟩))) ∧ Below w.heap.size w w' := by
  rcases hnr : nearB l.length e with _ | _
  · have hI := fun W => isNear_any s a l.length c e W
    rw [hnr] at hI
    have HI := Lib.hid hI
    clear hI hnr hlo hrd htab
    rw [Bool.false_and]
    go_enter Tryd.func16, Tryd.ntmps16
    go_wp2_with fail
    refine (HI.out _).mono ?_
    rintro r w1 ⟨rfl, hb⟩
    have bb := ((Below.refl w.heap.size w).alloc (Nat.le_refl _) (.cells #[.bool s, .slice a l.length c, .int .i64 e] 24)).trans (hb.mono (by simp))
    clear hb
    go_wp2
    go_ret
    exact ⟨rfl, bb⟩
  · have hn := of_decide_eq_true hnr
    have hI := fun W => isNear_any s a l.length c e W
    rw [hnr] at hI
    have hP := fun W hb => isPlain_any s a c l e W (by omega) hlo (hrd.below' (w' := W) hb (Nat.le_refl _))
    have hR := fun W hb => isInRange_any s a c l e W (by omega) (by omega) (by omega) hlo (hrd.below' (w' := W) hb (Nat.le_refl _)) (htab.below hb)
    rw [Bool.true_and]
    generalize plainB s l e = b1 at *
    generalize inR ⟨s, vl 1000000000 l, e⟩ = b2 at *
    have HI := Lib.hid hI; have HP := Lib.hid hP; have HR := Lib.hid hR
    clear hI hP hR hnr hlo hrd htab hn
    go_enter Tryd.func16, Tryd.ntmps16
    have bb0 := (Below.refl w.heap.size w).alloc (Nat.le_refl _) (.cells #[.bool s, .slice a l.length c, .int .i64 e] 24)
    have k0 : (w.alloc (.cells #[.bool s, .slice a l.length c, .int .i64 e] 24)).cell? ⟨w.heap.size, 0, none⟩ = some (.bool s) := by simp
    have k1 : (w.alloc (.cells #[.bool s, .slice a l.length c, .int .i64 e] 24)).cell? ⟨w.heap.size, 1, none⟩ = some (.slice a l.length c) := by simp
    have k2 : (w.alloc (.cells #[.bool s, .slice a l.length c, .int .i64 e] 24)).cell? ⟨w.heap.size, 2, none⟩ = some (.int .i64 e) := by simp
    go_wp2_with fail
    generalize w.alloc (.cells #[.bool s, .slice a l.length c, .int .i64 e] 24) = w0 at *
    refine (HI.out _).mono ?_
    rintro r w1 ⟨rfl, hb⟩
    have bb1 := bb0.trans (hb.mono bb0.size)
    replace k0 := cellB k0 hb
    replace k1 := cellB k1 hb
    replace k2 := cellB k2 hb
    clear hb bb0
    go_wp2_with fail
    refine (HP.out _ bb1).mono ?_
    rintro r w2 ⟨rfl, hb⟩
    have bb2 := bb1.trans (hb.mono bb1.size)
    replace k0 := cellB k0 hb
    replace k1 := cellB k1 hb
    replace k2 := cellB k2 hb
    clear hb bb1
    rcases b1 with _ | _
    · go_wp2
      go_ret
      exact ⟨rfl, bb2⟩
    · go_wp2_with fail
      refine (HR.out _ bb2).mono ?_
      rintro r w3 ⟨rfl, hb⟩
      have bb3 := bb2.trans (hb.mono bb2.size)
      clear hb bb2
      go_wp2
      go_ret
      exact ⟨rfl, bb3⟩

def mayR (A : Ans) (s : Bool) (l : List Nat) (e : Int) : Bool := decide (A.err = 0) && sameB A.p.neg s A.p.e e (dg 1000000000 A.p.m) l
set_option maxHeartbeats 4000000 in
theorem RMay_any (s : Bool) (a : Option Addr) (c : Nat) (l : List Nat) (e : Int) (w : World) (hl : l.length ≤ 9223372036854775807) (hlo : Lo 4294967296 l) (hrd : Rd w .u32 a l) :
    Calls Tryd.prog 17 #[.agg #[.bool s, .slice a l.length c, .int .i64 e]] w fun r w' => r = .returned (.bool (mayR (normA l.length s (vl 1000000000 l) e) s l e)) ∧ Below w.heap.size w w' := by
  have hN := fun W hb => RNorm_any s a c l e W hl hlo (hrd.below' (w' := W) hb (Nat.le_refl _))
  have hdl : (dg 1000000000 (normA l.length s (vl 1000000000 l) e).p.m).length ≤ 9223372036854775807 := Nat.le_trans (dg_len_9 _) (Nat.le_trans (normA_dl _ _ _ _) (by omega))
  generalize normA l.length s (vl 1000000000 l) e = A at *
  have hS := fun W a2 c2 hb h2 => SameD_any A.p.neg s a2 a c2 c (dg 1000000000 A.p.m) l A.p.e e W hdl hl h2 (hrd.below' hb (Nat.le_refl _))
  have hM : mayR A s l e = (decide (A.err = 0) && sameB A.p.neg s A.p.e e (dg 1000000000 A.p.m) l) := rfl
  have HN := Lib.hid hN; have HS := Lib.hid hS; have HM := Lib.hid hM
  clear hN hS hM hlo hrd hdl
  go_enter Tryd.func17, Tryd.ntmps17
  have bb0 := (Below.refl w.heap.size w).alloc (Nat.le_refl _) (.cells #[.bool s, .slice a l.length c, .int .i64 e] 24)
  have k0 : (w.alloc (.cells #[.bool s, .slice a l.length c, .int .i64 e] 24)).cell? ⟨w.heap.size, 0, none⟩ = some (.bool s) := by simp
  have k1 : (w.alloc (.cells #[.bool s, .slice a l.length c, .int .i64 e] 24)).cell? ⟨w.heap.size, 1, none⟩ = some (.slice a l.length c) := by simp
  have k2 : (w.alloc (.cells #[.bool s, .slice a l.length c, .int .i64 e] 24)).cell? ⟨w.heap.size, 2, none⟩ = some (.int .i64 e) := by simp
  go_wp2_with fail
  generalize w.alloc (.cells #[.bool s, .slice a l.length c, .int .i64 e] 24) = w0 at *
  refine (HN.out _ bb0).mono ?_
  rintro r w1 ⟨a1, c1, rfl, ho1, hb⟩
  have hb2 := hb.trans ((Below.refl w0.heap.size w1).alloc hb.size (.cells #[.bool A.p.neg, .slice a1 (dg 1000000000 A.p.m).length c1, .int .i64 A.p.e] 24))
  have bb2 := bb0.trans (hb2.mono bb0.size)
  replace k0 := cellB k0 hb2
  replace k1 := cellB k1 hb2
  replace k2 := cellB k2 hb2
  have hr1 := ho1.rd.alloc (.cells #[.bool A.p.neg, .slice a1 (dg 1000000000 A.p.m).length c1, .int .i64 A.p.e] 24)
  have HR1 := Lib.hid hr1; have HB2 := Lib.hid bb2
  clear hb hb2 bb0 ho1 hr1 bb2
  by_cases h0 : A.err = 0
  · have hB : ((A.err : Int) == 0) = true := by simp [h0]
    have hm : mayR A s l e = sameB A.p.neg s A.p.e e (dg 1000000000 A.p.m) l := by rw [HM.out, decide_eq_true h0, Bool.true_and]
    have HMM := Lib.hid hm
    clear h0 hm
    go_wp2_with fail
    refine (HS.out _ a1 c1 HB2.out HR1.out).mono ?_
    rintro r w3 ⟨rfl, hb3⟩
    have bb3 := HB2.out.trans (hb3.mono HB2.out.size)
    clear hb3
    go_wp2
    go_ret
    exact ⟨ret_bool HMM.out.symm, bb3⟩
  · have hB : ((A.err : Int) == 0) = false := by simp [h0]
    have hm : mayR A s l e = false := by rw [HM.out, decide_eq_false h0, Bool.false_and]
    have HMM := Lib.hid hm
    clear h0 hm
    go_wp2
    go_ret
    exact ⟨ret_bool HMM.out.symm, HB2.out⟩
end Go.Proofs.YtofeckdhhaoobaaDoor
