/- marks: slices of masks; Next walked. -/
import Derived.Test.YtibgejndlllhfaaDoorMarA
namespace Go.Proofs.YtibgejndlllhfaaDoor
open Go.RowKit BM

/-- seven cells in a row -/
def Mc (w : World) (b o : Nat) (x : MS) : Prop :=
  w.cell? ⟨b, o, none⟩ = some (.int .u64 (val x.q)) ∧ w.cell? ⟨b, o + 1, none⟩ = some (.int .u64 (val x.n)) ∧ w.cell? ⟨b, o + 2, none⟩ = some (.int .u64 (val x.o)) ∧ w.cell? ⟨b, o + 3, none⟩ = some (.int .u64 (val x.c)) ∧ w.cell? ⟨b, o + 4, none⟩ = some (.int .u64 (val x.k)) ∧ w.cell? ⟨b, o + 5, none⟩ = some (.int .u64 (val x.m)) ∧ w.cell? ⟨b, o + 6, none⟩ = some (.int .u64 (val x.s))
theorem Mc.below {w w' : World} {b o : Nat} {x : MS} (h : Mc w b o x) (hb : Below w.heap.size w w') : Mc w' b o x := by
  obtain ⟨h0, h1, h2, h3, h4, h5, h6⟩ := h
  exact ⟨cellW hb h0, cellW hb h1, cellW hb h2, cellW hb h3, cellW hb h4, cellW hb h5, cellW hb h6⟩
/-- the slice at a reads as xs -/
def RdM (w : World) (a : Option Addr) (xs : List MS) : Prop := ∀ j x, xs[j]? = some x → ∃ b off, a = some ⟨b, off, none⟩ ∧ Mc w b (off + j * 7) x
theorem RdM.below {w w' : World} {a : Option Addr} {xs : List MS} (h : RdM w a xs) (hb : Below w.heap.size w w') : RdM w' a xs := fun j x hj => by
  obtain ⟨b, off, e, hm⟩ := h j x hj
  exact ⟨b, off, e, hm.below hb⟩
/-- a box of an index -/
def Ix (w : World) (b : Nat) (a : Option Addr) (n c : Nat) (len : Int) : Prop := w.cell? ⟨b, 0, none⟩ = some (.slice a n c) ∧ w.cell? ⟨b, 1, none⟩ = some (.int .i64 len)
theorem Ix.below {w w' : World} {b : Nat} {a : Option Addr} {n c : Nat} {len : Int} (h : Hid (Ix w b a n c len)) (hb : Below w.heap.size w w') : Hid (Ix w' b a n c len) := Lib.hid ⟨cellW hb h.out.1, cellW hb h.out.2⟩
theorem Ix.mk (W : World) (a : Option Addr) (n c : Nat) (len : Int) (t : TypeId) (f : Nat × Nat) : Hid (Ix (W.alloc (.cells #[.slice a n c, .int .i64 len] t f)) W.heap.size a n c len) := Lib.hid ⟨by rw [World.cell?_alloc_mark]; rfl, by rw [World.cell?_alloc_mark]; rfl⟩

/-- where a word has something -/
def MS.hit (x : MS) : BitVec 64 := x.q ||| x.sg
def hitAt (xs : List MS) (p : Nat) : Bool := match xs[p / 64]? with | some x => x.hit.getLsbD (p % 64) | none => false
/-- the first place from i on, among d, at which f holds -/
def least (f : Nat → Bool) (i : Nat) : Nat → Nat
  | 0 => i
  | d + 1 => if f i then i else least f (i + 1) d
def nxV (xs : List MS) (len i : Int) : Nat := if least (hitAt xs) i.toNat (64 * xs.length - i.toNat) < 64 * xs.length then min (least (hitAt xs) i.toNat (64 * xs.length - i.toNat)) len.toNat else len.toNat
theorem least_spec (f : Nat → Bool) : ∀ (d i : Nat), i ≤ least f i d ∧ least f i d ≤ i + d ∧ (∀ q, i ≤ q → q < least f i d → f q = false) ∧ (least f i d < i + d → f (least f i d) = true)
  | 0, i => ⟨Nat.le_refl _, Nat.le_refl _, fun q h1 h2 => absurd h2 (by simp [least]; omega), fun h => absurd h (by simp [least])⟩
  | d + 1, i => by
    obtain ⟨h1, h2, h3, h4⟩ := least_spec f d (i + 1)
    unfold least
    by_cases h : f i = true
    · rw [if_pos h]
      exact ⟨Nat.le_refl _, by omega, fun q a b => by omega, fun _ => h⟩
    · rw [if_neg h]
      refine ⟨by omega, by omega, fun q a b => ?_, fun hl => h4 (by omega)⟩
      rcases Nat.eq_or_lt_of_le a with e | e
      · subst e; simpa using h
      · exact h3 q (by omega) b
theorem nx_hit {xs : List MS} {len i : Int} {p : Nat} (h1 : i.toNat ≤ p) (h2 : p < 64 * xs.length) (h3 : hitAt xs p = true) (h4 : ∀ q, i.toNat ≤ q → q < p → hitAt xs q = false) : nxV xs len i = min p len.toNat := by
  obtain ⟨a, b, c, d⟩ := least_spec (hitAt xs) (64 * xs.length - i.toNat) i.toNat
  have e : least (hitAt xs) i.toNat (64 * xs.length - i.toNat) = p := by
    rcases Nat.lt_trichotomy (least (hitAt xs) i.toNat (64 * xs.length - i.toNat)) p with h | h | h
    · have := h4 _ a h
      rw [d (by omega)] at this; cases this
    · exact h
    · have := c p h1 h
      rw [h3] at this; cases this
  unfold nxV
  rw [e, if_pos h2]
theorem nx_none {xs : List MS} {len i : Int} (h : ∀ q, i.toNat ≤ q → q < 64 * xs.length → hitAt xs q = false) : nxV xs len i = len.toNat := by
  obtain ⟨a, b, c, d⟩ := least_spec (hitAt xs) (64 * xs.length - i.toNat) i.toNat
  unfold nxV
  rw [if_neg]
  intro hl
  have := d (by omega)
  rw [h _ a hl] at this; cases this
theorem hitAt_at {xs : List MS} {x : MS} {k j : Nat} (hx : xs[k]? = some x) (hj : j < 64) : hitAt xs (64 * k + j) = x.hit.getLsbD j := by
  unfold hitAt
  rw [show (64 * k + j) / 64 = k by omega, show (64 * k + j) % 64 = j by omega, hx]
/-- what the loop of Next knows -/
def NxI (xs : List MS) (i0 k : Nat) (ah : BitVec 64) : Prop := i0 / 64 ≤ k ∧ (∀ j, j < 64 → ah.getLsbD j = decide (64 * k + j < i0)) ∧ ∀ q, i0 ≤ q → q < 64 * k → hitAt xs q = false
theorem NxI.start (xs : List MS) (i0 : Nat) : NxI xs i0 (i0 / 64) (fb (i0 % 64)) := ⟨Nat.le_refl _, fun j hj => by rw [fb_bit _ hj, Bool.eq_iff_iff, decide_eq_true_iff, decide_eq_true_iff]; omega, fun q h1 h2 => by omega⟩
theorem NxI.next {xs : List MS} {i0 k : Nat} {ah : BitVec 64} {x : MS} (h : NxI xs i0 k ah) (hx : xs[k]? = some x) (h0 : andNot x.hit ah = 0#64) : NxI xs i0 (k + 1) 0#64 := by
  obtain ⟨a, b, c⟩ := h
  refine ⟨by omega, fun j hj => ?_, fun q h1 h2 => ?_⟩
  · rw [BitVec.getLsbD_zero]; symm; rw [decide_eq_false_iff_not]; omega
  · by_cases hq : q < 64 * k
    · exact c q h1 hq
    · obtain ⟨j, rfl⟩ : ∃ j, q = 64 * k + j := ⟨q - 64 * k, by omega⟩
      rw [hitAt_at hx (by omega)]
      have e := congrArg (fun y => y.getLsbD j) h0
      simp only [n_bit _ _ (show j < 64 by omega), BitVec.getLsbD_zero, b j (by omega)] at e
      have : decide (64 * k + j < i0) = false := by rw [decide_eq_false_iff_not]; omega
      rw [this] at e; simpa using e
theorem NxI.hit {xs : List MS} {i0 : Nat} {len i : Int} {k : Nat} {ah : BitVec 64} {x : MS} (h : NxI xs i0 k ah) (hi : i.toNat = i0) (hx : xs[k]? = some x) (h0 : andNot x.hit ah ≠ 0#64) : nxV xs len i = min (64 * k + tz (andNot x.hit ah)) len.toNat := by
  subst hi
  obtain ⟨a, b, c⟩ := h
  obtain ⟨t1, t2, t3⟩ := tz_spec h0
  rw [n_bit _ _ t1, b _ t1] at t2
  have hk : k < xs.length := (List.getElem?_eq_some_iff.1 hx).1
  have t2' : x.hit.getLsbD (tz (andNot x.hit ah)) = true ∧ ¬ 64 * k + tz (andNot x.hit ah) < i.toNat := by simpa using t2
  refine nx_hit (by omega) (by omega) ?_ fun q h1 h2 => ?_
  · rw [hitAt_at hx t1]; exact t2'.1
  · by_cases hq : q < 64 * k
    · exact c q h1 hq
    · obtain ⟨j, rfl⟩ : ∃ j, q = 64 * k + j := ⟨q - 64 * k, by omega⟩
      have hj : j < tz (andNot x.hit ah) := by omega
      have e := t3 j hj
      rw [n_bit _ _ (by omega), b j (by omega)] at e
      rw [hitAt_at hx (by omega)]
      have : decide (64 * k + j < i.toNat) = false := by rw [decide_eq_false_iff_not]; omega
      rw [this] at e; simpa using e
theorem NxI.done {xs : List MS} {i0 : Nat} {len i : Int} {k : Nat} {ah : BitVec 64} (h : NxI xs i0 k ah) (hi : i.toNat = i0) (hk : xs.length ≤ k) : nxV xs len i = len.toNat := by
  subst hi
  exact nx_none fun q h1 h2 => h.2.2 q h1 (by omega)
set_option maxRecDepth 100000 in
set_option maxHeartbeats 1000000 in
theorem Next_any (a : Option Addr) (cap : Nat) (xs : List MS) (len i : Int) (w : World) (hT : Tb w) (hr : RdM w a xs) (hn : xs.length ≤ 2600000000000) (hl : -9223372036854775808 ≤ len ∧ len ≤ 9223372036854775807) (hi : -9223372036854775808 ≤ i ∧ i ≤ 9223372036854775807) :
    Calls Tryd.prog 18 #[.agg #[.slice a xs.length cap, .int .i64 len], .int .i64 i] w fun e w' => e = .returned (.int .i64 (nxV xs len i)) ∧ Below w.heap.size w w' := by
  have HT := Lib.hid hT
  have HR := Lib.hid hr
  clear hT hr
  have hI := NxI.start xs i.toNat
  obtain ⟨i0, hi0⟩ : ∃ n, i.toNat = n := ⟨_, rfl⟩
  obtain ⟨e0, he0⟩ : ∃ n, len.toNat = n := ⟨_, rfl⟩
  have hi1 : i0 ≤ 9223372036854775807 := by omega
  have he1 : e0 ≤ 9223372036854775807 := by omega
  rw [hi0] at hI
  have HI := Lib.hid hI
  have E1 := Lib.hid hi0
  have E2 := Lib.hid he0
  clear hI hi0 he0
  go_enter Tryd.func18, Tryd.ntmps18
  go_upto_region 1 with (fail)
  have I0 := Ix.mk w a xs.length cap len 27 (0, 0)
  have B0 := Lib.hid ((Below.refl w.heap.size w).alloc (Nat.le_refl _) (.cells #[.slice a xs.length cap, .int .i64 len] 27))
  generalize w.alloc (.cells #[.slice a xs.length cap, .int .i64 len] 27) = w0 at *
  obtain ⟨x0, x1⟩ := I0.out
  go_cut [5] (fun s wx => s = .int .i64 (e0 : Nat) ∧ w0 = wx)
  case first =>
    go_wp2
    all_goals go_meet
    all_goals exact ⟨by congr 1; have := E2.out; omega, rfl⟩
  case rest =>
    obtain ⟨rfl, rfl⟩ := hcut
    go_upto_region 2 with (fail)
    go_cut [1] (fun s wx => s = .int .i64 (i0 : Nat) ∧ w0 = wx)
    case first =>
      go_wp2
      all_goals go_meet
      all_goals exact ⟨by congr 1; have := E1.out; omega, rfl⟩
    case rest =>
      obtain ⟨rfl, rfl⟩ := hcut
      clear x0 x1
      go_wp2_with (refine (fb_any (i0 % 64) (by omega) _).mono ?_; rintro e w' ⟨rfl, rfl⟩)
      go_loopw [6, 7] (fun s6 s7 wr => ∃ (k : Nat) (ah : BitVec 64), k ≤ 144115188075855872 ∧ s7 = .int .i64 k ∧ s6 = .int .u64 (val ah) ∧ Hid (NxI xs i0 k ah) ∧ Hid (Below w.heap.size w wr) ∧ Hid (Ix wr w.heap.size a xs.length cap len)) (fun _ s7 _ => xs.length + 1 - (intOf s7).toNat)
      case atStart => exact ⟨i0 / 64, fb (i0 % 64), by omega, by go_num, rfl, HI, B0, I0⟩
      case round =>
        obtain ⟨k, ah, hk, rfl, rfl, HK, BR, IR⟩ := hrel
        obtain ⟨x0, x1⟩ := IR.out
        by_cases hlt : k < xs.length
        · obtain ⟨x, hx⟩ : ∃ x, xs[k]? = some x := ⟨_, List.getElem?_eq_getElem hlt⟩
          have HX := Lib.hid hx
          obtain ⟨b, off, rfl, hm⟩ := (HR.out.below BR.out) k x hx
          obtain ⟨m0, m1, m2, m3, m4, m5, m6⟩ := hm
          clear hx
          go_upto_region 8 with (fail)
          clear x0 x1 m0 m1 m2 m3 m4 m5 m6
          have M0 := Mx.mk wr x.q x.n x.o x.c x.k x.m x.s 49 (0, 0)
          have bz := (Below.refl wr.heap.size wr).alloc (Nat.le_refl _) (.cells #[.int .u64 (val x.q), .int .u64 (val x.n), .int .u64 (val x.o), .int .u64 (val x.c), .int .u64 (val x.k), .int .u64 (val x.m), .int .u64 (val x.s)] 49)
          have IR1 := Ix.below IR bz
          have BR1 := Lib.hid (BR.out.trans (bz.mono BR.out.size))
          have hsz : wr.heap.size < (wr.alloc (.cells #[.int .u64 (val x.q), .int .u64 (val x.n), .int .u64 (val x.o), .int .u64 (val x.c), .int .u64 (val x.k), .int .u64 (val x.m), .int .u64 (val x.s)] 49)).heap.size := by simp
          generalize wr.alloc (.cells #[.int .u64 (val x.q), .int .u64 (val x.n), .int .u64 (val x.o), .int .u64 (val x.c), .int .u64 (val x.k), .int .u64 (val x.m), .int .u64 (val x.s)] 49) = w1 at *
          clear bz
          have HG := Lib.hid (signs_any x)
          have HH : Hid (x.q ||| x.sg = x.hit) := Lib.hid rfl
          generalize x.sg = g at *
          unfold MS.v MS.cells at HG
          obtain ⟨m0, m1, m2, m3, m4, m5, m6⟩ := M0.out
          go_region_held3 (fun w' => w'.cell? ⟨wr.heap.size, 0, none⟩ = some (.int .u64 (val x.q)) ∧ w'.cell? ⟨wr.heap.size, 1, none⟩ = some (.int .u64 (val x.n)) ∧ w'.cell? ⟨wr.heap.size, 2, none⟩ = some (.int .u64 (val x.o)) ∧ w'.cell? ⟨wr.heap.size, 3, none⟩ = some (.int .u64 (val x.c)) ∧ w'.cell? ⟨wr.heap.size, 4, none⟩ = some (.int .u64 (val x.k)) ∧ w'.cell? ⟨wr.heap.size, 5, none⟩ = some (.int .u64 (val x.m)) ∧ w'.cell? ⟨wr.heap.size, 6, none⟩ = some (.int .u64 (val x.s)))
            (first | exact M1.out | exact M0.out)
            (first | (go_at_call 28; refine (HG.out _).mono ?_; rintro e w2 ⟨rfl, hb⟩; have hb1 := (Below.refl w1.heap.size w1).drew.trans hb; have M1 := Mx.below M0 hb1))
          clear m0 m1 m2 m3 m4 m5 m6
          have HF : Hid (bits .andNot .u64 (bits .or .u64 (val x.q) (val g)) (val ah) = val (andNot x.hit ah)) := Lib.hid (by rw [u_or, u_andNot, HH.out])
          have BR2 := Lib.hid (BR1.out.trans (hb1.mono BR1.out.size))
          have IR2 := Ix.below IR1 hb1
          clear hb hb1 M1 M0 BR1 IR1
          by_cases hz : andNot x.hit ah = 0#64
          · have hfv : bits .andNot .u64 (bits .or .u64 (val x.q) (val g)) (val ah) = 0 := by rw [HF.out, hz]; rfl
            have HN := Lib.hid (HK.out.next HX.out hz)
            clear hz HF
            generalize bits .andNot .u64 (bits .or .u64 (val x.q) (val g)) (val ah) = fv at *
            subst hfv
            have hk2 : (k : Int) + 1 ≤ 9223372036854775807 := by omega
            go_wp2
            go_roundw
            case rel => exact ⟨k + 1, 0#64, by omega, by go_num, rfl, HN, BR2, IR2⟩
            case measure => simp [intOf]; omega
          · have hz2 : (bits .andNot .u64 (bits .or .u64 (val x.q) (val g)) (val ah) == 0) = false := by rw [HF.out, i_0, u_eq]; simpa using hz
            have hN := HK.out.hit (len := len) E1.out HX.out hz
            rw [E2.out] at hN
            have HN := Lib.hid hN
            have HZ := Lib.hid hz
            have ht := (tz_spec hz).1
            have HTZ := Lib.hid (fun w hT => tz_any (andNot x.hit ah) hz w hT)
            generalize tz (andNot x.hit ah) = tq at *
            rw [← HF.out] at HTZ
            have HT2 := Lib.hid (HT.out.below BR2.out)
            clear hz hN
            go_wp2_with ((with_reducible refine (HTZ.out _ HT2.out).mono ?_); rintro e w' ⟨rfl, rfl⟩)
            all_goals go_ret
            all_goals exact ⟨ret_int (by rw [HN.out]; omega), BR2.out⟩
        · go_wp2
          go_ret
          exact ⟨ret_int (by rw [HK.out.done (len := len) E1.out (by omega), E2.out]), BR.out⟩
end Go.Proofs.YtibgejndlllhfaaDoor
