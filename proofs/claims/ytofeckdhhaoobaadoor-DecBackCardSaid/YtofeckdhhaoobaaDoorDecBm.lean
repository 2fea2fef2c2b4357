/- What is written of a number is read as it is. Nothing of the program. -/
import Derived.Test.YtofeckdhhaoobaaDoorDecPm
import Derived.Test.YtofeckdhhaoobaaDoorDecYm
import Derived.Test.YtofeckdhhaoobaaDoorDecTl
namespace Go.Proofs.YtofeckdhhaoobaaDoor
open Go.RowKit LM

theorem dv_dec2 (v : Nat) : dv (Lib.decDigits v) = v := by
  rw [dec_text]
  by_cases h : v = 0
  · rw [if_pos h, h]; rfl
  · rw [if_neg h]
    have key : ∀ l : List Nat, (∀ x ∈ l, x < 10) → dv (l.reverse.map (fun d => UInt8.ofNat (48 + d))) = vl 10 l := by
      intro l
      induction l with
      | nil => intro _; rfl
      | cons x t ih =>
        intro hl
        have hx := hl x (by simp)
        rw [List.reverse_cons, List.map_append, List.map_cons, List.map_nil, dv_snoc, ih (fun y hy => hl y (by simp [hy])), vl]
        have : (UInt8.ofNat (48 + x)).toNat = 48 + x := by simp; omega
        rw [this]; omega
    rw [key _ (Lo_dg (by omega) v), vl_dg (by omega)]
theorem dec_isD2 (v : Nat) : ∀ c ∈ Lib.decDigits v, isD c = true := by
  rw [dec_text]
  by_cases h : v = 0
  · rw [if_pos h]; intro c hc; have : c = 48 := by simpa using hc
    subst this; decide
  · rw [if_neg h]
    intro c hc
    obtain ⟨x, hx, rfl⟩ := List.mem_map.1 hc
    have hx2 : x < 10 := Lo_dg (b := 10) (by omega) v x (List.mem_reverse.1 hx)
    have : (UInt8.ofNat (48 + x)).toNat = 48 + x := by simp; omega
    unfold isD; rw [this]; simp; omega
/-- the first digit of a number above 0 -/
theorem dec_first {v : Nat} (h : 0 < v) : ∃ c t, Lib.decDigits v = c :: t ∧ c.toNat ≠ 48 := by
  have hl := dec_len2 v
  obtain ⟨k, hk⟩ : ∃ k, (dg 10 v).length = k + 1 := ⟨(dg 10 v).length - 1, by rw [dg_pos (by omega) h]; simp⟩
  rcases hd : Lib.decDigits v with _ | ⟨c, t⟩
  · rw [hd, hk] at hl; simp at hl
  · refine ⟨c, t, rfl, fun h48 => ?_⟩
    have h1 := dv_dec2 v
    have hT : ∀ x ∈ t, isD x = true := fun x hx => dec_isD2 v x (by rw [hd]; simp [hx])
    have h2 : dv (c :: t) = dv t := by
      have : dv (c :: t) = t.foldl (fun n c => 10 * n + (c.toNat - 48)) (10 * 0 + (c.toNat - 48)) := rfl
      rw [this, h48]; rfl
    rw [hd, h2] at h1
    have h3 := dv_lt hT
    rw [h1] at h3
    have h4 : t.length = k := by rw [hd, hk] at hl; simp at hl; omega
    rw [h4] at h3
    have h5 := dg_lower (b := 10) (by omega) v h
    rw [hk, Nat.add_sub_cancel] at h5
    omega

theorem dgs_app {X Y : List UInt8} {c : UInt8} (hX : ∀ x ∈ X, isD x = true) (hc : isD c = false) : dgs (X ++ c :: Y) = X ∧ aft (X ++ c :: Y) = c :: Y := by
  induction X with
  | nil =>
    refine ⟨dgs_no (.inr ⟨c, Y, rfl, hc⟩), ?_⟩
    have := dgs_aft (c :: Y)
    rw [dgs_no (.inr ⟨c, Y, rfl, hc⟩), List.nil_append] at this; exact this
  | cons x t ih =>
    obtain ⟨e1, e2⟩ := dgs_cons (t := t ++ c :: Y) (hX x (by simp))
    obtain ⟨i1, i2⟩ := ih (fun y hy => hX y (by simp [hy]))
    rw [List.cons_append, e1, e2, i1, i2]; exact ⟨rfl, rfl⟩
theorem dgs_all {X : List UInt8} (hX : ∀ x ∈ X, isD x = true) : dgs X = X ∧ aft X = [] := by
  induction X with
  | nil => exact ⟨rfl, rfl⟩
  | cons x t ih =>
    obtain ⟨e1, e2⟩ := dgs_cons (t := t) (hX x (by simp))
    obtain ⟨i1, i2⟩ := ih (fun y hy => hX y (by simp [hy]))
    rw [e1, e2, i1, i2]; exact ⟨rfl, rfl⟩

/-- the parts of a text without a sign -/
def cutB (neg : Bool) (l : List UInt8) : Option Lit :=
  if badW (dgs l) = true then none else
  match frac (aft l) with
  | none => none
  | some (B, l3) => match expn l3 with
    | none => none
    | some (d, P, l4) => if l4 = [] then some ⟨neg, dgs l, B, d, P⟩ else none
theorem cutZ_neg (l : List UInt8) : cutZ (45 :: l) = cutB true l := rfl
theorem cutZ_pos {c : UInt8} {l : List UInt8} (h : c.toNat ≠ 45) : cutZ (c :: l) = cutB false (c :: l) := by
  unfold cutZ cutB
  have hm : minus (c :: l) = false := by simp [minus, h]
  have hu : unsig (c :: l) = c :: l := by simp [unsig, h]
  rw [hm, hu]; rfl

theorem isD46 : isD 46 = false := by decide
theorem isD101 : isD 101 = false := by decide
theorem cutB_1 {neg : Bool} {X : List UInt8} (hX : ∀ x ∈ X, isD x = true) (hb : badW X = false) : cutB neg X = some ⟨neg, X, [], false, []⟩ := by
  obtain ⟨h1, h2⟩ := dgs_all hX
  unfold cutB; rw [h1, h2, hb]; rfl
theorem cutB_2 {neg : Bool} {X Y : List UInt8} (hX : ∀ x ∈ X, isD x = true) (hY : ∀ x ∈ Y, isD x = true) (hb : badW X = false) (hne : Y ≠ []) : cutB neg (X ++ 46 :: Y) = some ⟨neg, X, Y, false, []⟩ := by
  obtain ⟨h1, h2⟩ := dgs_app (Y := Y) hX isD46
  obtain ⟨i1, i2⟩ := dgs_all hY
  have hf : frac (46 :: Y) = some (Y, []) := by
    unfold frac
    simp only [show (46 : UInt8).toNat = 46 by decide, if_true, i1, i2, if_neg hne]
  unfold cutB; rw [h1, h2, hb, hf]; rfl
theorem expn_t {S P : List UInt8} {d : Bool} (hs : sgn S = (d, P)) (hP : ∀ x ∈ P, isD x = true) (hne : P ≠ []) : expn (101 :: S) = some (d, P, []) := by
  obtain ⟨i1, i2⟩ := dgs_all hP
  unfold expn
  simp only [show (101 : UInt8).toNat = 101 by decide, hs, i1, i2, if_neg hne, true_or, if_true]
theorem cutB_3 {neg d : Bool} {X S P : List UInt8} (hX : ∀ x ∈ X, isD x = true) (hb : badW X = false) (hs : sgn S = (d, P)) (hP : ∀ x ∈ P, isD x = true) (hne : P ≠ []) : cutB neg (X ++ 101 :: S) = some ⟨neg, X, [], d, P⟩ := by
  obtain ⟨h1, h2⟩ := dgs_app (Y := S) hX isD101
  have hf : frac (101 :: S) = some ([], 101 :: S) := by
    unfold frac
    simp only [show ¬ (101 : UInt8).toNat = 46 by decide, if_false]
  unfold cutB; rw [h1, h2, hb, hf]
  simp only [Bool.false_eq_true, if_false, expn_t hs hP hne, if_true]
theorem cutB_4 {neg d : Bool} {X Y S P : List UInt8} (hX : ∀ x ∈ X, isD x = true) (hY : ∀ x ∈ Y, isD x = true) (hb : badW X = false) (hYne : Y ≠ []) (hs : sgn S = (d, P)) (hP : ∀ x ∈ P, isD x = true) (hne : P ≠ []) : cutB neg (X ++ 46 :: (Y ++ 101 :: S)) = some ⟨neg, X, Y, d, P⟩ := by
  obtain ⟨h1, h2⟩ := dgs_app (Y := Y ++ 101 :: S) hX isD46
  obtain ⟨i1, i2⟩ := dgs_app (Y := S) hY isD101
  have hf : frac (46 :: (Y ++ 101 :: S)) = some (Y, 101 :: S) := by
    unfold frac
    simp only [show (46 : UInt8).toNat = 46 by decide, if_true, i1, i2, if_neg hYne]
  unfold cutB; rw [h1, h2, hb, hf]
  simp only [Bool.false_eq_true, if_false, expn_t hs hP hne, if_true]
theorem sgn_itoa (h : Int) : ∃ d P, sgn (Lib.itoa h) = (d, P) ∧ (∀ x ∈ P, isD x = true) ∧ P ≠ [] ∧ (if d = true then -(dv P : Int) else (dv P : Int)) = h ∧ dv P = h.natAbs := by
  have hne : ∀ v, Lib.decDigits v ≠ [] := fun v e => by have := dec_len2 v; rw [e] at this; simp at this; omega
  by_cases hn : h < 0
  · obtain ⟨u, rfl⟩ : ∃ u : Nat, h = -(u : Int) := ⟨h.natAbs, by omega⟩
    rw [Lib.itoa_neg u (by omega)]
    refine ⟨true, Lib.decDigits u, by simp [sgn], dec_isD2 u, hne u, ?_, ?_⟩
    · rw [dv_dec2]; simp
    · rw [dv_dec2]; omega
  · obtain ⟨u, rfl⟩ : ∃ u : Nat, h = (u : Int) := ⟨h.natAbs, by omega⟩
    rw [Lib.itoa_nonneg]
    refine ⟨false, Lib.decDigits u, ?_, dec_isD2 u, hne u, ?_, ?_⟩
    · rcases hd : Lib.decDigits u with _ | ⟨c, t⟩
      · exact absurd hd (hne u)
      · have hc := isD_b (dec_isD2 u c (by rw [hd]; simp))
        unfold sgn; simp only [if_neg (show ¬ (c.toNat = 43 ∨ c.toNat = 45) by omega)]
    · rw [dv_dec2]; simp
    · rw [dv_dec2]; omega

theorem dv_zeros (n : Nat) : dv (List.replicate n 48) = 0 := by
  induction n with
  | zero => rfl
  | succ n ih => rw [List.replicate_succ', dv_snoc, ih]; rfl
theorem isD_zeros {n : Nat} : ∀ c ∈ List.replicate n (48 : UInt8), isD c = true := fun c hc => by rw [(List.mem_replicate.1 hc).2]; decide
theorem badW_first {c : UInt8} {t : List UInt8} (h : c.toNat ≠ 48) : badW (c :: t) = false := by simp [badW, h]

/-- what a number's text, without its sign, is cut into -/
theorem wos_cut {m : Nat} {e : Int} (neg : Bool) (hm : 0 < m) (h1 : -10400 ≤ e) (h2 : e ≤ 10001) (hn : (dg 10 m).length ≤ 400) (hd1 : -10000 ≤ e + (dg 10 m).length - 1) (hd2 : e + (dg 10 m).length - 1 ≤ 10000) :
    ∃ (W B P : List UInt8) (d : Bool) (k : Nat), cutB neg (wos (Lib.decDigits m) e) = some ⟨neg, W, B, d, P⟩ ∧ dv (W ++ B) = m * 10 ^ k ∧ dv P ≤ 10000 ∧ (if d = true then -(dv P : Int) else (dv P : Int)) - B.length = e - k ∧
      (∃ c r, wos (Lib.decDigits m) e = c :: r ∧ c.toNat ≠ 45) ∧ (wos (Lib.decDigits m) e).length ≤ 900 := by
  have hl : (Lib.decDigits m).length = (dg 10 m).length := by
    rw [dec_len2]; have : (dg 10 m).length ≠ 0 := by rw [dg_pos (by omega) hm]; simp
    omega
  have hl0 : 0 < (Lib.decDigits m).length := by rw [hl, dg_pos (by omega) hm]; simp
  have hD := dec_isD2 m
  have hv := dv_dec2 m
  obtain ⟨c, t, hct, hc⟩ := dec_first hm
  rw [← hl] at hn hd1 hd2
  have hcD : isD c = true := hD c (by rw [hct]; simp)
  have hc45 : c.toNat ≠ 45 := by have := isD_b hcD; omega
  generalize hDD : Lib.decDigits m = D at *
  by_cases g1 : 0 ≤ e ∧ e + D.length - 1 ≤ 20
  · obtain ⟨k, rfl⟩ : ∃ k : Nat, e = k := ⟨e.toNat, by omega⟩
    have hw := wos_1 (D := D) g1.1 g1.2
    rw [hw, Int.toNat_natCast]
    refine ⟨D ++ List.replicate k 48, [], [], false, k, cutB_1 (fun x hx => ?_) (by rw [hct]; exact badW_first hc), ?_, by decide, by simp [dv], ⟨c, t ++ List.replicate k 48, by rw [hct]; rfl, hc45⟩, by simp; omega⟩
    · rcases List.mem_append.1 hx with h | h
      · exact hD x h
      · exact isD_zeros x h
    · rw [List.append_nil, dv_append, hv, dv_zeros, List.length_replicate]; rfl
  · by_cases g2 : e < 0 ∧ -7 ≤ e + D.length - 1
    · by_cases g3 : 0 ≤ e + D.length - 1
      · have hw := wos_2 (D := D) g2.1 g3
        obtain ⟨j, hj⟩ : ∃ j : Nat, e + (D.length : Int) = j := ⟨(e + D.length).toNat, by omega⟩
        rw [hw, hj, Int.toNat_natCast]
        have hj1 : 1 ≤ j := by omega
        have hj2 : j < D.length := by omega
        obtain ⟨i, rfl⟩ : ∃ i, j = i + 1 := ⟨j - 1, by omega⟩
        refine ⟨D.take (i + 1), D.drop (i + 1), [], false, 0, cutB_2 (fun x hx => hD x (List.mem_of_mem_take hx)) (fun x hx => hD x (List.mem_of_mem_drop hx)) (by rw [hct]; exact badW_first hc) (fun h => ?_), by rw [List.take_append_drop, hv]; simp, by decide, ?_, ⟨c, t.take i ++ 46 :: D.drop (i + 1), by rw [hct]; rfl, hc45⟩, ?_⟩
        · have := congrArg List.length h; rw [List.length_drop] at this; simp at this; omega
        · rw [List.length_drop]; simp [dv]; omega
        · simp; omega
      · have hw := wos_3 (D := D) g2.1 (by omega) g2.2
        obtain ⟨k, hk⟩ : ∃ k : Nat, -(e + (D.length : Int) - 1) - 1 = k := ⟨(-(e + D.length - 1) - 1).toNat, by omega⟩
        rw [hw, hk, Int.toNat_natCast]
        have hform : [48, 46] ++ List.replicate k 48 ++ D = [48] ++ 46 :: (List.replicate k 48 ++ D) := by simp
        rw [hform]
        refine ⟨[48], List.replicate k 48 ++ D, [], false, 0, cutB_2 (by decide) (fun x hx => ?_) (by decide) (fun h => ?_), ?_, by decide, ?_, ⟨48, 46 :: (List.replicate k 48 ++ D), rfl, by decide⟩, by simp; omega⟩
        · rcases List.mem_append.1 hx with h | h
          · exact isD_zeros x h
          · exact hD x h
        · have := congrArg List.length h; rw [List.length_append] at this; simp only [List.length_nil] at this; omega
        · have h3 : [48] ++ (List.replicate k 48 ++ D) = List.replicate (k + 1) 48 ++ D := by rw [List.replicate_succ]; rfl
          rw [h3, dv_append, dv_zeros, hv]; simp
        · rw [List.length_append, List.length_replicate]; simp [dv]; omega
    · have hw := wos_4 (D := D) (e := e) g1 g2
      rw [hw]
      obtain ⟨d, P, hs, hP, hPne, hval, habs⟩ := sgn_itoa (e + D.length - 1)
      have hil := Lib.itoa_length_le (e + D.length - 1) (by omega) (by omega)
      by_cases g5 : D.length ≤ 1
      · rw [wpow_one g5]
        have ht : t = [] := by have := congrArg List.length hct; rw [List.length_cons] at this; have h0 : t.length = 0 := (by omega); exact List.eq_nil_of_length_eq_zero h0
        have hD1 : D.take 1 = D := List.take_of_length_le g5
        rw [hD1]
        refine ⟨D, [], P, d, 0, cutB_3 hD (by rw [hct]; exact badW_first hc) hs hP hPne, by rw [List.append_nil, hv]; simp, by omega, ?_, ⟨c, t ++ 101 :: Lib.itoa (e + D.length - 1), by rw [hct]; rfl, hc45⟩, by simp; omega⟩
        rw [hval]; simp; omega
      · rw [wpow_more (by omega)]
        have hform : D.take 1 ++ 46 :: D.drop 1 ++ 101 :: Lib.itoa (e + D.length - 1) = D.take 1 ++ 46 :: (D.drop 1 ++ 101 :: Lib.itoa (e + D.length - 1)) := by simp
        rw [hform]
        refine ⟨D.take 1, D.drop 1, P, d, 0, cutB_4 (fun x hx => hD x (List.mem_of_mem_take hx)) (fun x hx => hD x (List.mem_of_mem_drop hx)) (by rw [hct]; exact badW_first hc) (fun h => ?_) hs hP hPne, by rw [List.take_append_drop, hv]; simp, by omega, ?_, ⟨c, 46 :: (D.drop 1 ++ 101 :: Lib.itoa (e + D.length - 1)), by rw [hct]; rfl, hc45⟩, by simp; omega⟩
        · have := congrArg List.length h; rw [List.length_drop] at this; simp at this; omega
        · rw [hval, List.length_drop]; omega

theorem litA_of {n : Nat} {t : Lit} {p : Pl} {k : Nat} (hn : n ≤ 1000) (hm : p.m % 10 ≠ 0) (hin : inR p = true) (hs : t.neg = p.neg) (h1 : dv (t.W ++ t.B) = p.m * 10 ^ k) (h2 : dv t.P ≤ 10000) (h3 : (if t.down = true then -(dv t.P : Int) else (dv t.P : Int)) - t.B.length = p.e - k) : litA n (some t) = ⟨0, p⟩ := by
  unfold litA
  simp only [if_neg (show ¬ 1000 < n by omega)]
  have h4 : ((if t.down = true then -((min (dv t.P) 100000 : Nat) : Int) else ((min (dv t.P) 100000 : Nat) : Int)) - t.B.length) = p.e - k := by
    rw [Nat.min_eq_left (by omega)]; exact h3
  rw [h4, h1, hs]
  have hp : pl p.neg (p.m * 10 ^ k) (p.e - k) = p := by
    have hpos : 0 < p.m * 10 ^ k := Nat.mul_pos (by omega) (Nat.pow_pos (by omega))
    unfold pl
    rw [if_neg (by omega), core_plain hm, tz_plain hm, Int.sub_add_cancel]
  unfold tellA
  rw [hp, if_pos hin]

theorem tellA_zero {s : Bool} {e : Int} : tellA s 0 e = ⟨0, zP⟩ := by
  have h1 : pl s 0 e = zP := rfl
  unfold tellA; rw [h1, if_pos zP_in]
theorem tellA_err {s : Bool} {v : Nat} {e : Int} (h : (tellA s v e).err ≠ 0) : (tellA s v e).p = zP := by
  unfold tellA at *
  by_cases h2 : inR (pl s v e) = true
  · rw [if_pos h2] at h; exact absurd rfl h
  · rw [if_neg h2]
/-- what is written is read as it is -/
theorem read_back {p : Pl} (hp : PlainP p) (hin : inR p = true) : prsA (txt (wtx ⟨0, p⟩)) = ⟨0, p⟩ ∧ (wtx ⟨0, p⟩).length ≤ 901 := by
  rw [prs_lit, txt_size, txt_list]
  rcases hp with ⟨h0, h1⟩ | hm
  · subst h1
    have hw : wtx ⟨0, zP⟩ = [48] := by
      show (if (0 : Nat) = 0 then (if (false = true) then _ else wos (Lib.decDigits 0) 0) else []) = _
      rw [if_pos rfl, if_neg (by decide), Lib.decDigits_one (by omega)]; decide
    rw [hw]
    refine ⟨?_, by decide⟩
    rw [cutZ_pos (by decide), cutB_1 (by decide) (by decide)]
    have h : litA [(48 : UInt8)].length (some ⟨false, [48], [], false, []⟩) = tellA false 0 0 := by rfl
    rw [h]; exact tellA_zero
  · have hb := hin
    unfold inR at hb
    have hb2 := of_decide_eq_true hb
    obtain ⟨b1, b2, b3⟩ := hb2
    have hd : dl p.m = (dg 10 p.m).length := rfl
    have hbd := inR_bounds hin
    rw [hd] at b1 b2 b3
    obtain ⟨W, B, P, d, k, hc, g1, g2, g3, ⟨c, r, hcr, hc45⟩, g5⟩ := wos_cut (m := p.m) (e := p.e) p.neg (by omega) hbd.2.1 hbd.2.2 b1 b2 b3
    have hw : wtx ⟨0, p⟩ = if p.neg = true then 45 :: wos (Lib.decDigits p.m) p.e else wos (Lib.decDigits p.m) p.e := by
      unfold wtx; rw [if_pos rfl]
    cases hneg : p.neg with
    | true =>
      rw [hneg] at hc
      rw [hw, hneg, if_pos rfl, cutZ_neg, hc]
      exact ⟨litA_of (by simp; omega) hm hin (by simp [hneg]) g1 g2 g3, by simp; omega⟩
    | false =>
      rw [hneg] at hc
      rw [hw, hneg, if_neg (by decide)]
      rw [hcr] at hc g5 ⊢
      rw [cutZ_pos hc45, hc]
      exact ⟨litA_of (by omega) hm hin (by simp [hneg]) g1 g2 g3, by omega⟩
theorem prs_good (s : ByteArray) : inR (prsA s).p = true ∧ PlainP (prsA s).p := by
  rw [prs_lit]
  unfold litA
  rcases cutZ s.data.toList with _ | t
  · exact ⟨zP_in, .inl ⟨rfl, rfl⟩⟩
  · simp only
    split
    · exact ⟨zP_in, .inl ⟨rfl, rfl⟩⟩
    · exact ⟨tellA_in _ _ _, tellA_plain _ _ _⟩
theorem prs_zero (s : ByteArray) (h : (prsA s).err ≠ 0) : (prsA s).p = zP := by
  rw [prs_lit] at h ⊢
  rcases hc : cutZ s.data.toList with _ | t
  · rfl
  · rw [hc] at h
    by_cases h1 : 1000 < s.size
    · have e1 : litA s.size (some t) = ⟨3, zP⟩ := by unfold litA; simp only [if_pos h1]
      rw [e1]
    · have e1 : litA s.size (some t) = tellA t.neg (dv (t.W ++ t.B)) ((if t.down then -((min (dv t.P) 100000 : Nat) : Int) else ((min (dv t.P) 100000 : Nat) : Int)) - t.B.length) := by unfold litA; simp only [if_neg h1]
      rw [e1] at h ⊢
      exact tellA_err h
end Go.Proofs.YtofeckdhhaoobaaDoor
