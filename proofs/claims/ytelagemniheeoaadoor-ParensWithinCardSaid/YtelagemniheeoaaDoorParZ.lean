/- parens: the document's Close and Open walked. -/
import Derived.Test.YtelagemniheeoaaDoorParY
namespace Go.Proofs.YtelagemniheeoaaDoor
open Go.RowKit BM

set_option maxHeartbeats 2000000 in
theorem RClose_any (a : Option Addr) (c : Nat) (f : Nat → Bool) (n : Nat) (i : Int) (w : World) (hr : RdF w a f n) (hn : n ≤ 768) : Calls Tryd.prog 23 #[.slice a n c, .int .i64 i] w fun e w' => e = .returned (.int .i64 (cls f n i)) ∧ w = w' := by
  have HO := Lib.hid (ROpens_any a c f n i w hr hn)
  have HR := Lib.hid hr
  clear hr
  by_cases ho : opn f n i = true
  · rw [ho] at HO
    obtain ⟨m, rfl, hm, hf⟩ := opn_nat ho
    have HSP := Lib.hid (cls_spec hm hf)
    have HIS : Hid (∀ c, Cls f n m c → cls f n m = c) := Lib.hid (fun c h => h.is)
    generalize cls f n m = res at *
    have HF := Lib.hid hf
    clear ho hf
    go_enter Tryd.func23, Tryd.ntmps23
    go_wp2_with (refine HO.out.mono ?_; rintro e w2 ⟨rfl, rfl⟩)
    go_loopw [5, 6] (fun s5 s6 wr => ∃ (k : Nat) (d : Int), s6 = .int .i64 k ∧ m ≤ k ∧ k ≤ n ∧ s5 = .int .i64 d ∧ Hid (d = ex f k - ex f m) ∧ Hid (∀ q, m < q → q ≤ k → ex f m < ex f q) ∧ w = wr) (fun _ s6 _ => n - (intOf s6).toNat)
    case atStart => exact ⟨m, 0, rfl, Nat.le_refl _, by omega, rfl, Lib.hid (by omega), Lib.hid (fun q h1 h2 => by omega), rfl⟩
    case round =>
      obtain ⟨k, d, rfl, hmk, hk, rfl, HD, HQ, rfl⟩ := hrel
      by_cases hlt : k < n
      · obtain ⟨b, off, rfl, hc⟩ := HR.out k hlt
        have hb1 : -2000 ≤ d ∧ d ≤ 2000 := by
          have h1 := HD.out; have h2 := ex_bd f k; have h3 := ex_bd f m; omega
        have hd0 : 0 ≤ d := by
          have h1 := HD.out
          rcases Nat.eq_or_lt_of_le hmk with h | h
          · subst h; omega
          · have := HQ.out k h (Nat.le_refl _); omega
        cases hfk : f k with
        | true =>
          rw [hfk] at hc
          have HD2 : Hid (d + 1 = ex f (k + 1) - ex f m) := Lib.hid (by rw [ex_on hfk]; have := HD.out; omega)
          have HQ2 : Hid (∀ q, m < q → q ≤ k + 1 → ex f m < ex f q) := Lib.hid (fun q h1 h2 => by
            rcases Nat.eq_or_lt_of_le h2 with h | h
            · subst h; have := HD2.out; omega
            · exact HQ.out q h1 (by omega))
          have hz : (d + 1 == 0) = false := by simp; omega
          clear hfk
          go_wp2
          go_roundw
          case rel => exact ⟨k + 1, d + 1, by go_num, by omega, by omega, rfl, HD2, HQ2, by first | rfl | trivial⟩
          case measure => simp [intOf]; omega
        | false =>
          rw [hfk] at hc
          have hmk' : m < k := by
            rcases Nat.eq_or_lt_of_le hmk with h | h
            · subst h; rw [HF.out] at hfk; cases hfk
            · exact h
          have HD2 : Hid (d - 1 = ex f (k + 1) - ex f m) := Lib.hid (by rw [ex_off hfk]; have := HD.out; omega)
          by_cases hd1 : d = 1
          · have HC : Hid (res = (k : Int)) := Lib.hid (HIS.out k ⟨hmk', hlt, hfk, HF.out, by have := HD2.out; omega, fun q h1 h2 => HQ.out q h1 h2⟩)
            subst hd1
            clear hfk
            go_wp2
            go_ret
            exact ⟨ret_int HC.out.symm, rfl⟩
          · have hd2 : 1 ≤ d := by
              have := HQ.out k hmk' (Nat.le_refl _); have := HD.out; omega
            have hz : (d - 1 == 0) = false := by simp; omega
            have HQ2 : Hid (∀ q, m < q → q ≤ k + 1 → ex f m < ex f q) := Lib.hid (fun q h1 h2 => by
              rcases Nat.eq_or_lt_of_le h2 with h | h
              · subst h; have := HD2.out; omega
              · exact HQ.out q h1 (by omega))
            clear hfk
            go_wp2
            go_roundw
            case rel => exact ⟨k + 1, d - 1, by go_num, by omega, by omega, rfl, HD2, HQ2, by first | rfl | trivial⟩
            case measure => simp [intOf]; omega
      · obtain rfl : k = n := by omega
        have HC : Hid (res = -1) := Lib.hid (by
          rcases HSP.out with ⟨h, _⟩ | ⟨c', h, h2⟩
          · exact h
          · have h3 := h2.eq
            have h4 := HQ.out (c' + 1) (by have := h2.lt; omega) h2.ltn
            omega)
        clear hlt
        go_wp2
        go_ret
        exact ⟨ret_int HC.out.symm, rfl⟩
  · have ho' : opn f n i = false := by simpa using ho
    have HE : Hid (cls f n i = -1) := Lib.hid (by unfold cls; rw [if_neg ho])
    rw [ho'] at HO
    rw [HE.out]
    clear ho ho'
    go_enter Tryd.func23, Tryd.ntmps23
    go_wp2_with (refine HO.out.mono ?_; rintro e w2 ⟨rfl, rfl⟩)
    go_ret
    exact ⟨rfl, rfl⟩
/-- the last of the opening places ahead of k with that excess -/
def Bst (f : Nat → Bool) (e : Int) (k : Nat) (b : Int) : Prop := (b = -1 ∧ ∀ q, q < k → f q = true → ex f q ≠ e) ∨ ∃ p : Nat, b = p ∧ p < k ∧ f p = true ∧ ex f p = e ∧ ∀ q, p < q → q < k → f q = true → ex f q ≠ e
theorem Bst.skip {f : Nat → Bool} {e : Int} {k : Nat} {b : Int} (h : Bst f e k b) (hk : f k = true → ex f k ≠ e) : Bst f e (k + 1) b := by
  rcases h with ⟨h1, h2⟩ | ⟨p, h1, h2, h3, h4, h5⟩
  · refine Or.inl ⟨h1, fun q a1 a2 => ?_⟩
    rcases Nat.eq_or_lt_of_le (Nat.le_of_lt_succ a1) with r | r
    · subst r; exact hk a2
    · exact h2 q r a2
  · refine Or.inr ⟨p, h1, by omega, h3, h4, fun q a0 a1 a2 => ?_⟩
    rcases Nat.eq_or_lt_of_le (Nat.le_of_lt_succ a1) with r | r
    · subst r; exact hk a2
    · exact h5 q a0 r a2
theorem Bst.take {f : Nat → Bool} {e : Int} {k : Nat} (h1 : f k = true) (h2 : ex f k = e) : Bst f e (k + 1) k :=
  Or.inr ⟨k, rfl, by omega, h1, h2, fun q a0 a1 => by omega⟩
theorem Bst.opo {f : Nat → Bool} {n m : Nat} {b : Int} (hm : m < n) (hf : f m = false) (h : Bst f (ex f (m + 1)) m b) : opo f n m = b := by
  have h0 := ex_off hf
  have hh : hasB n (m : Int) = true := by unfold hasB; simp; omega
  unfold Proofs.YtelagemniheeoaaDoor.opo
  rw [hh, Int.toNat_natCast, hf]
  simp only [Bool.not_false, Bool.and_true, if_true]
  rw [rst_down]
  rcases seek0_down (ex f) (ex f (m + 1)) m with ⟨a, b'⟩ | ⟨p, a, b', d, e⟩
  · rw [a]
    rcases h with ⟨h1, _⟩ | ⟨p, h1, h2, h3, h4, _⟩
    · exact h1.symm
    · have := b' p h2; omega
  · rw [a]
    have hp1 : ex f (m + 1) < ex f (p + 1) := by
      rcases Nat.eq_or_lt_of_le (show p + 1 ≤ m from b') with r | r
      · rw [r]; omega
      · exact e (p + 1) (by omega) r
    have hfp : f p = true ∧ ex f p = ex f (m + 1) := by
      rcases ex_step f p with ⟨h1, h2⟩ | ⟨h1, h2⟩
      · exact ⟨h2, by omega⟩
      · omega
    rcases h with ⟨h1, h2⟩ | ⟨p', h1, h2, h3, h4, h5⟩
    · exact absurd hfp.2 (h2 p b' hfp.1)
    · rcases Nat.lt_trichotomy p p' with r | r | r
      · have := e p' r h2; omega
      · rw [h1, r]
      · exact absurd hfp.2 (h5 p r b' hfp.1)
set_option maxHeartbeats 2000000 in
theorem ROpen_any (a : Option Addr) (c : Nat) (f : Nat → Bool) (n : Nat) (i : Int) (w : World) (hr : RdF w a f n) (hn : n ≤ 768) : Calls Tryd.prog 25 #[.slice a n c, .int .i64 i] w fun e w' => e = .returned (.int .i64 (opo f n i)) ∧ w = w' := by
  have HR := Lib.hid hr
  by_cases hi0 : i < 0
  · have HE : Hid (opo f n i = -1) := Lib.hid (by unfold opo hasB; rw [if_neg]; simp; omega)
    rw [HE.out]
    clear hr
    go_enter Tryd.func25, Tryd.ntmps25
    go_wp2
    go_ret
    exact ⟨rfl, rfl⟩
  by_cases hin : (n : Int) ≤ i
  · have HE : Hid (opo f n i = -1) := Lib.hid (by unfold opo hasB; rw [if_neg]; simp; omega)
    rw [HE.out]
    clear hr
    go_enter Tryd.func25, Tryd.ntmps25
    go_wp2
    go_ret
    exact ⟨rfl, rfl⟩
  obtain ⟨m, rfl⟩ : ∃ m : Nat, i = m := ⟨i.toNat, by omega⟩
  have hm : m < n := by omega
  obtain ⟨b0, off0, rfl, hc0⟩ := hr m hm
  cases hf : f m with
  | true =>
    have HE : Hid (opo f n m = -1) := Lib.hid (by unfold opo; rw [Int.toNat_natCast, hf]; simp)
    rw [HE.out]
    rw [hf] at hc0
    clear hr hf
    go_enter Tryd.func25, Tryd.ntmps25
    go_wp2
    go_ret
    exact ⟨rfl, rfl⟩
  | false =>
    have HX := Lib.hid (RExcess_any (some ⟨b0, off0, none⟩) c f n ((m : Int) + 1) w hr hn)
    have hcl : clp n ((m : Int) + 1) = m + 1 := clp_nat (n := n) (k := m + 1) hm
    rw [hcl] at HX
    have HB : Hid (∀ b, Bst f (ex f (m + 1)) m b → opo f n m = b) := Lib.hid (fun b h => h.opo hm hf)
    have hbd := ex_bd f (m + 1)
    obtain ⟨E, hE⟩ : ∃ E, ex f (m + 1) = E := ⟨_, rfl⟩
    rw [hE] at HX HB hbd
    generalize opo f n m = res at *
    rw [hf] at hc0
    clear hr hf hcl hE
    go_enter Tryd.func25, Tryd.ntmps25
    go_wp2_with (refine HX.out.mono ?_; rintro e w2 ⟨rfl, rfl⟩)
    go_loopw [5, 6, 7] (fun s5 s6 s7 wr => ∃ (k : Nat) (b d : Int), s7 = .int .i64 k ∧ k ≤ m ∧ s6 = .int .i64 b ∧ Hid (Bst f E k b) ∧ s5 = .int .i64 d ∧ Hid (d = ex f k - E) ∧ w = wr) (fun _ _ s7 _ => m - (intOf s7).toNat)
    case atStart => exact ⟨0, -1, -E, rfl, by omega, rfl, Lib.hid (Or.inl ⟨rfl, fun q h => by omega⟩), rfl, Lib.hid (by simp [ex, rk]), rfl⟩
    case round =>
      obtain ⟨k, b, d, rfl, hk, rfl, HBK, rfl, HD, rfl⟩ := hrel
      have hb1 : -2000 ≤ d ∧ d ≤ 2000 := by
        have h1 := HD.out; have h2 := ex_bd f k; omega
      by_cases hlt : k < m
      · obtain ⟨b1, off1, he, hc⟩ := HR.out k (by omega)
        obtain ⟨rfl, rfl⟩ : b0 = b1 ∧ off0 = off1 := by simpa using he
        have hd : decide (k < n) = true := by simp; omega
        cases hfk : f k with
        | true =>
          rw [hfk] at hc
          have HD2 : Hid (d + 1 = ex f (k + 1) - E) := Lib.hid (by rw [ex_on hfk]; have := HD.out; omega)
          by_cases hd0 : d = 0
          · have HB2 : Hid (Bst f E (k + 1) k) := Lib.hid (Bst.take hfk (by have := HD.out; omega))
            subst hd0
            clear hfk he
            go_wp2
            go_roundw
            case rel => exact ⟨k + 1, k, 0 + 1, by go_num, by omega, rfl, HB2, by first | rfl | go_num, HD2, by first | rfl | trivial⟩
            case measure => simp [intOf]; omega
          · have HB2 : Hid (Bst f E (k + 1) b) := Lib.hid (HBK.out.skip (fun _ => by have := HD.out; omega))
            have hz : (d == 0) = false := by simp; omega
            clear hfk he
            go_wp2
            go_roundw
            case rel => exact ⟨k + 1, b, d + 1, by go_num, by omega, rfl, HB2, rfl, HD2, by first | rfl | trivial⟩
            case measure => simp [intOf]; omega
        | false =>
          rw [hfk] at hc
          have HD2 : Hid (d - 1 = ex f (k + 1) - E) := Lib.hid (by rw [ex_off hfk]; have := HD.out; omega)
          have HB2 : Hid (Bst f E (k + 1) b) := Lib.hid (HBK.out.skip (fun h => by rw [hfk] at h; cases h))
          clear hfk he
          go_wp2
          go_roundw
          case rel => exact ⟨k + 1, b, d - 1, by go_num, by omega, rfl, HB2, rfl, HD2, by first | rfl | trivial⟩
          case measure => simp [intOf]; omega
      · obtain rfl : k = m := by omega
        have HC := Lib.hid (HB.out b HBK.out)
        clear hlt
        go_wp2
        go_ret
        exact ⟨ret_int HC.out.symm, rfl⟩
end Go.Proofs.YtelagemniheeoaaDoor
