/- parens: the document's bits, ranks, excess, Select walked. -/
import Derived.Test.YtelagemniheeoaaDoorParX
namespace Go.Proofs.YtelagemniheeoaaDoor
open Go.RowKit BM

theorem infoBool8 : (Tryd.prog.info? 4).map (fun i => (i.zero, i.size, i.bytes)) = some (some (.bool false), 1, 1) := by kernel_rfl
/-- booleans as values -/
def bv8 (f : Nat → Bool) (n : Nat) : List Value := (List.range n).map (fun i => Value.bool (f i))
theorem bv8_get {f : Nat → Bool} {n i : Nat} (h : i < n) : (bv8 f n)[i]? = some (.bool (f i)) := by simp [bv8, h]
theorem bv8_succ (f : Nat → Bool) (n : Nat) : bv8 f (n + 1) = bv8 f n ++ [.bool (f n)] := by simp [bv8, List.range_succ]
theorem bv8_len (f : Nat → Bool) (n : Nat) : (bv8 f n).length = n := by simp [bv8]
/-- the slice at a is the bits of f, n of them -/
def RdF (w : World) (a : Option Addr) (f : Nat → Bool) (n : Nat) : Prop := ∀ i, i < n → ∃ b off, a = some ⟨b, off, none⟩ ∧ w.cell? ⟨b, off + i, none⟩ = some (.bool (f i))
theorem RdF.below {w w' : World} {a : Option Addr} {f : Nat → Bool} {n : Nat} (h : RdF w a f n) (hb : Below w.heap.size w w') : RdF w' a f n := fun i hi => by
  obtain ⟨b, off, e, hc⟩ := h i hi
  exact ⟨b, off, e, cellP hb hc⟩
theorem Has_word (x : BitVec 64) (i : Nat) (hi : i < 64) (w : World) : Calls Tryd.prog 36 #[.int .u64 (val x), .int .i64 i] w fun e w' => e = .returned (.bool (x.getLsbD i)) ∧ w = w' := Has_any x i hi w
def ResMk (f : Nat → Bool) (n : Nat) (w : World) (e : Ending) (w' : World) : Prop := ∃ a c, e = .returned (.slice a n c) ∧ RdF w' a f n ∧ Below w.heap.size w w'
set_option maxHeartbeats 2000000 in
theorem Make_any (a : Option Addr) (cap : Nat) (bits : List (BitVec 64)) (n : Int) (w : World) (hr : RdV w a (wv8 bits)) (hl : bits.length ≤ 12) (hn : -9223372036854775808 ≤ n ∧ n ≤ 9223372036854775807) :
    Calls Tryd.prog 12 #[.slice a bits.length cap, .int .i64 n] w (ResMk (BM.wb bits) (newN bits.length n) w) := by
  have HR := Lib.hid (fun W (hb : Below w.heap.size w W) => hr.below hb)
  obtain ⟨N, hN⟩ : ∃ N, newN bits.length n = N := ⟨_, rfl⟩
  have hNd : N = min n.toNat (64 * bits.length) := hN.symm
  rw [hN]
  clear hN hr
  have HND := Lib.hid hNd
  have hNb : N ≤ 768 := by omega
  clear hNd
  go_enter Tryd.func12, Tryd.ntmps12
  go_wp2_with fail
  go_loopw [5, 6] (fun s5 s6 wr => ∃ (i : Nat) (ao : Option Addr) (co : Nat), s6 = .int .i64 i ∧ i ≤ N ∧ s5 = .slice ao i co ∧ Hid (OwnV wr w.heap.size 4 1 ao i co (bv8 (BM.wb bits) i)) ∧ Hid (Below w.heap.size w wr)) (fun _ s6 _ => N - (intOf s6).toNat)
  case atStart => exact ⟨0, none, 0, rfl, by omega, rfl, Lib.hid (OwnV.nil _ _ _ _), Lib.hid (Below.refl _ _)⟩
  case round =>
    obtain ⟨i, ao, co, rfl, hi, rfl, HO, BR⟩ := hrel
    by_cases hlt : i < N
    · have hND := HND.out
      have hin : (i : Int) < n := by omega
      have hil : (i : Int) < 64 * (bits.length : Int) := by omega
      have hw : i / 64 < bits.length := by omega
      obtain ⟨x, hx⟩ : ∃ x, bits[i / 64]? = some x := ⟨_, List.getElem?_eq_getElem hw⟩
      obtain ⟨xb, xo, hxa, hxc⟩ := HR.out wr BR.out _ _ (wv8_get hx)
      have hfx : BM.wb bits i = x.getLsbD (i % 64) := by unfold BM.wb; rw [hx]
      have HH := Lib.hid (fun W => Has_word x (i % 64) (by omega) W)
      rw [← hfx] at HH
      have hz := BR.out.size
      have HSC := Lib.hid (bv8_succ (BM.wb bits) i)
      subst hxa
      clear hND hx hfx
      generalize BM.wb bits i = bb at *
      go_wp2_with (first | (refine (HH.out _).mono ?_; rintro e w2 ⟨rfl, rfl⟩) | (refine wp_row wr rfl _ _ 28 rfl w.heap.size 4 _ 1 1 Tryd.underlying28 infoBool8 rfl (by decide) ao co i _ rfl _ rfl (by simp [Value.oneCell']) _ rfl HO.out (by omega) (by unfold maxLen; omega) hz ?_; intro ao' cap' w' h1 h2 h3; have H1 := Lib.hid h1; have H2 := Lib.hid h2; clear h1 h2 h3))
      go_roundw
      case rel =>
        have h1 := H1.out
        exact ⟨i + 1, ao', cap', by go_num, by omega, rfl, Lib.hid (by rw [HSC.out]; exact h1), Lib.hid (BR.out.trans H2.out)⟩
      case measure => simp [intOf]; omega
    · have hND := HND.out
      obtain rfl : i = N := by omega
      have hO := HO.out
      have HF : Hid (RdF wr ao (BM.wb bits) i) := Lib.hid (fun j hj => hO.rdV j _ (bv8_get hj))
      by_cases hin : (i : Int) < n
      · have hil : ¬ (i : Int) < 64 * (bits.length : Int) := by omega
        clear hO hND hlt
        go_wp2
        go_ret
        exact ⟨ao, co, rfl, HF.out, BR.out⟩
      · clear hO hND hlt
        go_wp2
        go_ret
        exact ⟨ao, co, rfl, HF.out, BR.out⟩
theorem ROpens_any (a : Option Addr) (c : Nat) (f : Nat → Bool) (n : Nat) (i : Int) (w : World) (hr : RdF w a f n) (hn : n ≤ 768) : Calls Tryd.prog 15 #[.slice a n c, .int .i64 i] w fun e w' => e = .returned (.bool (opn f n i)) ∧ w = w' := by
  unfold opn hasB
  by_cases h0 : 0 ≤ i
  · obtain ⟨k, rfl⟩ : ∃ k : Nat, i = k := ⟨i.toNat, by omega⟩
    by_cases h1 : k < n
    · obtain ⟨b, off, rfl, hc⟩ := hr k h1
      have hd : decide (k < n) = true := by simpa using h1
      rw [Int.toNat_natCast]
      have HE : Hid ((decide ((0 : Int) ≤ (k : Int)) && decide ((k : Int) < (n : Int)) && f k) = f k) := Lib.hid (by simp; omega)
      rw [HE.out]
      generalize f k = x at *
      go_enter Tryd.func15, Tryd.ntmps15
      go_wp2
      go_ret
      exact ⟨rfl, rfl⟩
    · have hd : decide (k < n) = false := by simpa using h1
      have HE : Hid ((decide ((0 : Int) ≤ (k : Int)) && decide ((k : Int) < (n : Int)) && f (k : Int).toNat) = false) := Lib.hid (by simp; omega)
      rw [HE.out]
      clear hr
      go_enter Tryd.func15, Tryd.ntmps15
      go_wp2
      go_ret
      exact ⟨rfl, rfl⟩
  · have HE : Hid ((decide ((0 : Int) ≤ i) && decide (i < (n : Int)) && f i.toNat) = false) := Lib.hid (by simp [h0])
    rw [HE.out]
    clear hr
    go_enter Tryd.func15, Tryd.ntmps15
    go_wp2
    go_ret
    exact ⟨rfl, rfl⟩
set_option maxHeartbeats 1000000 in
theorem RRank_any (a : Option Addr) (c : Nat) (f : Nat → Bool) (n : Nat) (i : Int) (w : World) (hr : RdF w a f n) (hn : n ≤ 768) : Calls Tryd.prog 17 #[.slice a n c, .int .i64 i] w fun e w' => e = .returned (.int .i64 (rk f (clp n i))) ∧ w = w' := by
  obtain ⟨m, hm⟩ : ∃ m, clp n i = m := ⟨_, rfl⟩
  have hmd : m = min i.toNat n := hm.symm
  rw [hm]
  have HMD := Lib.hid hmd
  have hmn : m ≤ n := by omega
  have HR := Lib.hid hr
  clear hm hmd hr
  go_enter Tryd.func17, Tryd.ntmps17
  go_wp2_with fail
  go_loopw [5, 6] (fun s5 s6 wr => ∃ k : Nat, s6 = .int .i64 k ∧ k ≤ m ∧ s5 = .int .i64 (rk f k) ∧ w = wr) (fun _ s6 _ => m - (intOf s6).toNat)
  case atStart => exact ⟨0, rfl, by omega, rfl, rfl⟩
  case round =>
    obtain ⟨k, rfl, hk, rfl, rfl⟩ := hrel
    have hrb := rk_le f k
    by_cases hlt : k < m
    · have hki : (k : Int) < i := by have := HMD.out; omega
      have hd : decide (k < n) = true := by simp; omega
      obtain ⟨b, off, rfl, hc⟩ := HR.out k (by omega)
      have HS := Lib.hid (rk_succ f k)
      have hkn : k < n := by omega
      cases hf : f k with
      | true =>
        rw [hf] at hc HS
        generalize rk f k = r at *
        clear hf
        go_wp2
        go_roundw
        case rel => exact ⟨k + 1, by go_num, by omega, by rw [HS.out]; go_num, by first | rfl | trivial⟩
        case measure => simp [intOf]; omega
      | false =>
        rw [hf] at hc HS
        generalize rk f k = r at *
        clear hf
        go_wp2
        go_roundw
        case rel => exact ⟨k + 1, by go_num, by omega, by rw [HS.out]; go_num, by first | rfl | trivial⟩
        case measure => simp [intOf]; omega
    · obtain rfl : k = m := by omega
      clear hrb
      by_cases hki : (k : Int) < i
      · have hd : decide (k < n) = false := by have := HMD.out; simp; omega
        clear hlt
        go_wp2
        go_ret
        exact ⟨rfl, rfl⟩
      · clear hlt
        go_wp2
        go_ret
        exact ⟨rfl, rfl⟩
set_option maxHeartbeats 1000000 in
theorem RExcess_any (a : Option Addr) (c : Nat) (f : Nat → Bool) (n : Nat) (i : Int) (w : World) (hr : RdF w a f n) (hn : n ≤ 768) : Calls Tryd.prog 19 #[.slice a n c, .int .i64 i] w fun e w' => e = .returned (.int .i64 (ex f (clp n i))) ∧ w = w' := by
  obtain ⟨m, hm⟩ : ∃ m, clp n i = m := ⟨_, rfl⟩
  have hmd : m = min i.toNat n := hm.symm
  rw [hm]
  have HMD := Lib.hid hmd
  have hmn : m ≤ n := by omega
  have HR := Lib.hid hr
  clear hm hmd hr
  go_enter Tryd.func19, Tryd.ntmps19
  go_wp2_with fail
  go_loopw [5, 6] (fun s5 s6 wr => ∃ k : Nat, s6 = .int .i64 k ∧ k ≤ m ∧ s5 = .int .i64 (ex f k) ∧ w = wr) (fun _ s6 _ => m - (intOf s6).toNat)
  case atStart => exact ⟨0, rfl, by omega, rfl, rfl⟩
  case round =>
    obtain ⟨k, rfl, hk, rfl, rfl⟩ := hrel
    have hrb := ex_bd f k
    by_cases hlt : k < m
    · have hki : (k : Int) < i := by have := HMD.out; omega
      have hd : decide (k < n) = true := by simp; omega
      obtain ⟨b, off, rfl, hc⟩ := HR.out k (by omega)
      have hkn : k < n := by omega
      cases hf : f k with
      | true =>
        have HS := Lib.hid (ex_on hf)
        rw [hf] at hc
        generalize ex f k = r at *
        clear hf
        go_wp2
        go_roundw
        case rel => exact ⟨k + 1, by go_num, by omega, by rw [HS.out], by first | rfl | trivial⟩
        case measure => simp [intOf]; omega
      | false =>
        have HS := Lib.hid (ex_off hf)
        rw [hf] at hc
        generalize ex f k = r at *
        clear hf
        go_wp2
        go_roundw
        case rel => exact ⟨k + 1, by go_num, by omega, by rw [HS.out], by first | rfl | trivial⟩
        case measure => simp [intOf]; omega
    · obtain rfl : k = m := by omega
      clear hrb
      by_cases hki : (k : Int) < i
      · have hd : decide (k < n) = false := by have := HMD.out; simp; omega
        clear hlt
        go_wp2
        go_ret
        exact ⟨rfl, rfl⟩
      · clear hlt
        go_wp2
        go_ret
        exact ⟨rfl, rfl⟩
theorem sel_in {f : Nat → Bool} {n k : Nat} (h : k < rk f n) : ∃ t : Nat, sel f n k = t ∧ t < n ∧ f t = true ∧ rk f t = k := by
  obtain ⟨h1, h2, h3⟩ := selN_spec h
  refine ⟨selN f k n, ?_, h1, h2, h3⟩
  unfold sel
  rw [if_neg (by omega), Int.toNat_natCast]
theorem sel_out {f : Nat → Bool} {n : Nat} : sel f n (rk f n : Nat) = -1 := by unfold sel; rw [if_pos (by omega)]
theorem sel_step {f : Nat → Bool} {n j : Nat} (hj : j < n) (hf : f j = true) : sel f n (rk f j : Nat) = j := by
  have h1 : rk f j < rk f n := Nat.lt_of_lt_of_le (by rw [rk_succ, hf]; simp : rk f j < rk f (j + 1)) (rk_mono f hj)
  obtain ⟨t, h2, h3, h4, h5⟩ := sel_in h1
  rw [h2]
  rcases Nat.lt_trichotomy t j with h | h | h
  · have := rk_mono f (show t + 1 ≤ j from h); rw [rk_succ, h4] at this; simp at this; omega
  · rw [h]
  · have := rk_mono f (show j + 1 ≤ t from h); rw [rk_succ, hf] at this; simp at this; omega
theorem wrap_down {k : Int} (h : -9223372036854775808 ≤ k ∧ k ≤ 9223372036854775807) : ∃ k', IntKind.i64.wrap (k - 1) = k' ∧ ((k' = k - 1 ∧ -9223372036854775807 ≤ k) ∨ (k = -9223372036854775808 ∧ k' = 9223372036854775807)) := by
  refine ⟨_, rfl, ?_⟩
  rw [IntKind.wrap_i64]
  omega
set_option maxHeartbeats 1000000 in
theorem RSelect_any (a : Option Addr) (c : Nat) (f : Nat → Bool) (n : Nat) (k : Int) (w : World) (hr : RdF w a f n) (hn : n ≤ 768) (hk : -9223372036854775808 ≤ k ∧ k ≤ 9223372036854775807) : Calls Tryd.prog 21 #[.slice a n c, .int .i64 k] w fun e w' => e = .returned (.int .i64 (sel f n k)) ∧ w = w' := by
  have HR := Lib.hid hr
  clear hr
  by_cases hk0 : k < 0
  · have hs : sel f n k = -1 := by unfold sel; rw [if_pos (Or.inl hk0)]
    rw [hs]
    clear hs
    go_enter Tryd.func21, Tryd.ntmps21
    go_wp2_with fail
    go_loopw [5, 1] (fun s5 s1 wr => ∃ (j : Nat) (kj : Int), s5 = .int .i64 j ∧ j ≤ n ∧ s1 = .int .i64 kj ∧ Hid ((-9223372036854775808 ≤ kj ∧ kj < 0) ∨ (9223372036854775807 - (j : Int) ≤ kj ∧ kj ≤ 9223372036854775807)) ∧ w = wr) (fun s5 _ _ => n - (intOf s5).toNat)
    case atStart => exact ⟨0, k, rfl, by omega, rfl, Lib.hid (by omega), rfl⟩
    case round =>
      obtain ⟨j, kj, rfl, hj, rfl, HK, rfl⟩ := hrel
      by_cases hlt : j < n
      · obtain ⟨b, off, rfl, hc⟩ := HR.out j hlt
        have hkj := HK.out
        have hz : (kj == 0) = false := by simp; omega
        obtain ⟨k', hw, hkk⟩ := wrap_down (k := kj) (by omega)
        have HK2 : Hid ((-9223372036854775808 ≤ k' ∧ k' < 0) ∨ (9223372036854775807 - ((j + 1 : Nat) : Int) ≤ k' ∧ k' ≤ 9223372036854775807)) := Lib.hid (by omega)
        have HK3 : Hid ((-9223372036854775808 ≤ kj ∧ kj < 0) ∨ (9223372036854775807 - ((j + 1 : Nat) : Int) ≤ kj ∧ kj ≤ 9223372036854775807)) := Lib.hid (by omega)
        rw [IntWalk.i64_left] at hw
        clear hkj hkk
        cases hf : f j with
        | true =>
          rw [hf] at hc
          clear hf
          go_wp2
          go_roundw
          case rel => exact ⟨j + 1, k', by go_num, by omega, by rw [hw], HK2, by first | rfl | trivial⟩
          case measure => simp [intOf]; omega
        | false =>
          rw [hf] at hc
          clear hf
          go_wp2
          go_roundw
          case rel => exact ⟨j + 1, kj, by go_num, by omega, rfl, HK3, by first | rfl | trivial⟩
          case measure => simp [intOf]; omega
      · go_wp2
        go_ret
        exact ⟨rfl, rfl⟩
  · obtain ⟨q, rfl⟩ : ∃ q : Nat, k = q := ⟨k.toNat, by omega⟩
    go_enter Tryd.func21, Tryd.ntmps21
    go_wp2_with fail
    go_loopw [5, 1] (fun s5 s1 wr => ∃ (j m : Nat), s5 = .int .i64 j ∧ j ≤ n ∧ s1 = .int .i64 m ∧ m ≤ q ∧ Hid (q = rk f j + m) ∧ w = wr) (fun s5 _ _ => n - (intOf s5).toNat)
    case atStart => exact ⟨0, q, rfl, by omega, rfl, by omega, Lib.hid (by simp [rk]), rfl⟩
    case round =>
      obtain ⟨j, m, rfl, hj, rfl, hmq, HM, rfl⟩ := hrel
      by_cases hlt : j < n
      · obtain ⟨b, off, rfl, hc⟩ := HR.out j hlt
        have hrs := rk_succ f j
        cases hf : f j with
        | true =>
          rw [hf] at hc hrs
          by_cases hm : m = 0
          · subst hm
            have HS : Hid (sel f n q = j) := Lib.hid (by rw [show q = rk f j by have := HM.out; omega]; exact sel_step hlt hf)
            clear hf hrs
            go_wp2
            go_ret
            exact ⟨ret_int HS.out.symm, rfl⟩
          · have hz : ((m : Int) == 0) = false := by simp [hm]
            have HM2 : Hid (q = rk f (j + 1) + (m - 1)) := Lib.hid (by rw [hrs]; have := HM.out; simp; omega)
            have hm1 : (1 : Int) ≤ m := by omega
            clear hf hrs
            go_wp2
            go_roundw
            case rel => exact ⟨j + 1, m - 1, by go_num, by omega, by congr 1; omega, by omega, HM2, by first | rfl | trivial⟩
            case measure => simp [intOf]; omega
        | false =>
          rw [hf] at hc hrs
          have HM2 : Hid (q = rk f (j + 1) + m) := Lib.hid (by rw [hrs]; have := HM.out; simp; omega)
          clear hf hrs
          go_wp2
          go_roundw
          case rel => exact ⟨j + 1, m, by go_num, by omega, rfl, by omega, HM2, by first | rfl | trivial⟩
          case measure => simp [intOf]; omega
      · obtain rfl : j = n := by omega
        have HS : Hid (sel f j q = -1) := Lib.hid (by unfold sel; rw [if_pos]; have := HM.out; omega)
        go_wp2
        go_ret
        exact ⟨ret_int HS.out.symm, rfl⟩
end Go.Proofs.YtelagemniheeoaaDoor
