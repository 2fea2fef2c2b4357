/- dec's functions at plain numbers (what Norm, Neg, Add and Mul gave): for DecOrder's and DecRing's walks. -/
import Derived.Test.YtofeckdhhaoobaaDoorDecAds
import Derived.Test.YtofeckdhhaoobaaDoorDecNg
import Derived.Test.YtofeckdhhaoobaaDoorDecVs
import Derived.Test.YtofeckdhhaoobaaDoorDecU
import Derived.Test.YtofeckdhhaoobaaDoorDecL
import Derived.Test.YtofeckdhhaoobaaDoorDecGs
namespace Go.Proofs.YtofeckdhhaoobaaDoor
open Go.RowKit LM

theorem dg9_few' {m : Nat} (h : (dg 10 m).length ≤ 400) : (dg 1000000000 m).length ≤ 200 := by
  rcases Nat.eq_zero_or_pos m with h0 | h0
  · rw [h0, dg_zero]; simp
  · have h1 := dg_lower (b := 1000000000) (by omega) m h0
    have h2 := dg_upper (b := 10) (by omega) m
    have e1 : (1000000000 : Nat) ^ ((dg 1000000000 m).length - 1) = 10 ^ (9 * ((dg 1000000000 m).length - 1)) := by rw [Nat.pow_mul]
    rw [e1] at h1
    rcases Nat.lt_or_ge (9 * ((dg 1000000000 m).length - 1)) (dg 10 m).length with h3 | h3
    · omega
    · have h4 : 10 ^ (dg 10 m).length ≤ 10 ^ (9 * ((dg 1000000000 m).length - 1)) := Nat.pow_le_pow_right (by omega) h3
      omega
theorem norm_plain' {p : Pl} (hp : PlainP p) (hin : inR p = true) : normA (dg 1000000000 p.m).length p.neg (vl 1000000000 (dg 1000000000 p.m)) p.e = ⟨0, p⟩ := by
  obtain ⟨h1, h2, h3⟩ := inR_bounds hin
  have h4 := dg9_few' (m := p.m) h1
  have hn : nearB (dg 1000000000 p.m).length p.e = true := decide_eq_true (by omega)
  rw [vl_dg (by omega)]
  unfold normA
  rw [if_pos hn]
  unfold tellA
  rw [pl_of_plain hp, if_pos hin]
theorem few_pl {p : Pl} (hin : inR p = true) : (dg 1000000000 p.m).length ≤ 9223372036854775807 := by
  have h4 := dg9_few' (m := p.m) (inR_bounds hin).1
  omega
theorem lo_pl (p : Pl) : Lo 4294967296 (dg 1000000000 p.m) := Lo_mono (Lo_dg (by omega) _) (by omega)
theorem addA_pp (A : Ans) (p : Pl) : addA A ⟨0, p⟩ = if A.err = 0 then addV A.p p else ⟨A.err, zP⟩ := by
  unfold addA
  by_cases h : A.err = 0
  · have hk : okP A ⟨0, p⟩ := ⟨h, rfl⟩
    rw [if_pos hk, if_pos h]
  · have hk : ¬ okP A ⟨0, p⟩ := fun k => h k.1
    rw [if_neg hk, if_neg h]
    unfold pairE
    by_cases h1 : A.err = 1
    · rw [if_pos (.inl h1), h1]
    · have h2 : ¬ (A.err = 1 ∨ (⟨0, p⟩ : Ans).err = 1) := by rintro (k | k); exact h1 k; cases k
      rw [if_neg h2, if_pos h]

section
variable {p q : Pl} (hp : PlainP p) (ip : inR p = true) (a1 : Option Addr) (c1 : Nat) (w : World) (r1 : Rd w .u32 a1 (dg 1000000000 p.m)) (htab : Tab w)
include hp ip r1 htab
/-- two plain numbers' sum -/
theorem cAddPP (hq : PlainP q) (iq : inR q = true) (a2 : Option Addr) (c2 : Nat) (r2 : Rd w .u32 a2 (dg 1000000000 q.m)) :
    Calls Tryd.prog 28 #[.agg #[.bool p.neg, .slice a1 (dg 1000000000 p.m).length c1, .int .i64 p.e], .agg #[.bool q.neg, .slice a2 (dg 1000000000 q.m).length c2, .int .i64 q.e]] w (ResA (addV p q) w) := by
  have h := DAdd_any p.neg q.neg a1 a2 c1 c2 _ _ p.e q.e w (few_pl ip) (few_pl iq) (lo_pl p) (lo_pl q) r1 r2 htab
  rw [norm_plain' hp ip, norm_plain' hq iq, addA_pp, if_pos rfl] at h
  exact h
/-- any number's sum with a plain one -/
theorem cAddRP (s : Bool) (a2 : Option Addr) (c2 : Nat) (l : List Nat) (e : Int) (hl : l.length ≤ 9223372036854775807) (hlo : Lo 4294967296 l) (r2 : Rd w .u32 a2 l) :
    Calls Tryd.prog 28 #[.agg #[.bool s, .slice a2 l.length c2, .int .i64 e], .agg #[.bool p.neg, .slice a1 (dg 1000000000 p.m).length c1, .int .i64 p.e]] w (ResA (addA (normA l.length s (vl 1000000000 l) e) ⟨0, p⟩) w) := by
  have h := DAdd_any s p.neg a2 a1 c2 c1 l _ e p.e w hl (few_pl ip) hlo (lo_pl p) r2 r1 htab
  rw [norm_plain' hp ip] at h
  exact h
/-- a plain number's product with any -/
theorem cMulPR (s : Bool) (a2 : Option Addr) (c2 : Nat) (l : List Nat) (e : Int) (hl : l.length ≤ 9223372036854775807) (hlo : Lo 4294967296 l) (r2 : Rd w .u32 a2 l) :
    Calls Tryd.prog 30 #[.agg #[.bool p.neg, .slice a1 (dg 1000000000 p.m).length c1, .int .i64 p.e], .agg #[.bool s, .slice a2 l.length c2, .int .i64 e]] w (ResA (mulA ⟨0, p⟩ (normA l.length s (vl 1000000000 l) e)) w) := by
  have h := DMul_any p.neg s a1 a2 c1 c2 _ l p.e e w (few_pl ip) hl (lo_pl p) hlo r1 r2 htab
  rw [norm_plain' hp ip] at h
  exact h
/-- two plain numbers held against each other -/
theorem cCmpPP (hq : PlainP q) (iq : inR q = true) (a2 : Option Addr) (c2 : Nat) (r2 : Rd w .u32 a2 (dg 1000000000 q.m)) :
    Calls Tryd.prog 24 #[.agg #[.bool p.neg, .slice a1 (dg 1000000000 p.m).length c1, .int .i64 p.e], .agg #[.bool q.neg, .slice a2 (dg 1000000000 q.m).length c2, .int .i64 q.e]] w fun r w' => r = .returned (.tuple #[.int .i64 (cmpP p q), .int .i64 0]) ∧ Below w.heap.size w w' := by
  have h := DCmp_any p.neg q.neg a1 a2 c1 c2 _ _ p.e q.e w (few_pl ip) (few_pl iq) (lo_pl p) (lo_pl q) r1 r2 htab
  rw [norm_plain' hp ip, norm_plain' hq iq] at h
  refine h.mono ?_
  rintro r w' ⟨hb, ⟨_, _, hr⟩ | ⟨hn, _⟩⟩
  · exact ⟨hr, hb⟩
  · exact absurd ⟨rfl, rfl⟩ hn
end
end Go.Proofs.YtofeckdhhaoobaaDoor

/- Boxes of numbers that are carried hidden, and the facts of the order's and the ring's walks. -/
namespace Go.Proofs.YtofeckdhhaoobaaDoor
open Go.RowKit LM

def Bx (w : World) (b : Nat) (s : Bool) (a : Option Addr) (n c : Nat) (e : Int) : Prop := w.cell? ⟨b, 0, none⟩ = some (.bool s) ∧ w.cell? ⟨b, 1, none⟩ = some (.slice a n c) ∧ w.cell? ⟨b, 2, none⟩ = some (.int .i64 e)
theorem Bx.below {w w' : World} {b : Nat} {s : Bool} {a : Option Addr} {n c : Nat} {e : Int} (h : Hid (Bx w b s a n c e)) (hb : Below w.heap.size w w') : Hid (Bx w' b s a n c e) := by
  obtain ⟨h0, h1, h2⟩ := h.out
  exact Lib.hid ⟨cellB h0 hb, cellB h1 hb, cellB h2 hb⟩
theorem Bx.new (w : World) (s : Bool) (a : Option Addr) (n c : Nat) (e : Int) (t : TypeId) : Hid (Bx (w.alloc (.cells #[.bool s, .slice a n c, .int .i64 e] t)) w.heap.size s a n c e) :=
  Lib.hid ⟨by simp, by simp, by simp⟩
theorem addA_in' (A B : Ans) : inR (addA A B).p = true := by
  unfold addA
  split
  · unfold addV
    split
    · exact tellA_in _ _ _
    · split <;> exact tellA_in _ _ _
  · exact zP_in
theorem mulA_in' (A B : Ans) : inR (mulA A B).p = true := by
  unfold mulA
  split
  · exact tellA_in _ _ _
  · exact zP_in
theorem zP_plain : PlainP zP := .inl ⟨rfl, rfl⟩
theorem addA_plain (A B : Ans) : PlainP (addA A B).p := by
  unfold addA
  split
  · exact addV_plain _ _
  · exact zP_plain
theorem mulA_plain (A B : Ans) : PlainP (mulA A B).p := by
  have h1 : ∀ A B, mulA A B = if okP A B then mulV A.p B.p else ⟨pairE A B, zP⟩ := fun _ _ => rfl
  rw [h1]
  split
  · exact mulV_plain _ _
  · exact zP_plain
theorem tellA_err (s : Bool) (v : Nat) (e : Int) : (tellA s v e).err ≤ 3 := by
  unfold tellA
  split <;> simp
theorem pairE_err {A B : Ans} (hA : A.err ≤ 3) (hB : B.err ≤ 3) : pairE A B ≤ 3 := by
  unfold pairE
  split
  · omega
  · split <;> omega
theorem addV_err (p q : Pl) : (addV p q).err ≤ 3 := by
  unfold addV
  split
  · exact tellA_err _ _ _
  · split <;> exact tellA_err _ _ _
theorem addA_err {A B : Ans} (hA : A.err ≤ 3) (hB : B.err ≤ 3) : (addA A B).err ≤ 3 := by
  unfold addA
  split
  · exact addV_err _ _
  · exact pairE_err hA hB
theorem mulA_err {A B : Ans} (hA : A.err ≤ 3) (hB : B.err ≤ 3) : (mulA A B).err ≤ 3 := by
  unfold mulA
  split
  · exact tellA_err _ _ _
  · exact pairE_err hA hB
theorem addA_ok {A B : Ans} (h : (addA A B).err = 0) : A.err = 0 ∧ B.err = 0 ∧ addA A B = addV A.p B.p := by
  by_cases k : okP A B
  · exact ⟨k.1, k.2, by unfold addA; rw [if_pos k]⟩
  · have h1 : addA A B = ⟨pairE A B, zP⟩ := by unfold addA; rw [if_neg k]
    rw [h1] at h
    exact absurd h (pairE_bad k)
theorem mulA_ok {A B : Ans} (h : (mulA A B).err = 0) : A.err = 0 ∧ B.err = 0 ∧ mulA A B = mulV A.p B.p := by
  by_cases k : okP A B
  · exact ⟨k.1, k.2, by unfold mulA; rw [if_pos k]; rfl⟩
  · have h1 : mulA A B = ⟨pairE A B, zP⟩ := by unfold mulA; rw [if_neg k]
    rw [h1] at h
    exact absurd h (pairE_bad k)
instance (p q : Pl) : Decidable (p = q) := decidable_of_iff (p.neg = q.neg ∧ p.m = q.m ∧ p.e = q.e) (by cases p; cases q; simp)
theorem sameB_pl {p q : Pl} : sameB p.neg q.neg p.e q.e (dg 1000000000 p.m) (dg 1000000000 q.m) = decide (p = q) := by
  rw [Bool.eq_iff_iff]
  unfold sameB
  rw [Bool.and_eq_true, Bool.and_eq_true, beq_iff_eq, decide_eq_true_iff, decide_eq_true_iff, decide_eq_true_iff]
  constructor
  · rintro ⟨h1, h2, h3⟩
    have h4 : p.m = q.m := by rw [← vl_dg (b := 1000000000) (by omega) p.m, h3, vl_dg (by omega)]
    rcases p with ⟨a, b, c⟩; rcases q with ⟨d, e, f⟩
    simp only at h1 h2 h4
    rw [h1, h2, h4]
  · rintro rfl
    exact ⟨rfl, rfl, rfl⟩
theorem sameB_self7 (p : Pl) : sameB p.neg p.neg p.e p.e (dg 1000000000 p.m) (dg 1000000000 p.m) = true := by simp [sameB]
/-- what a comparison answers, as a number -/
def cmU (A B : Ans) : Int := if okP A B then cmpP A.p B.p else 0
theorem ResCm.num {A B : Ans} {w w' : World} {r : Ending} (h : ResCm A B w r w') : r = .returned (.tuple #[.int .i64 (cmU A B), .int .i64 (pairE A B : Nat)]) ∧ Below w.heap.size w w' := by
  obtain ⟨hb, ⟨h1, h2, hr⟩ | ⟨hn, hr⟩⟩ := h
  · refine ⟨?_, hb⟩
    unfold cmU
    rw [if_pos (show okP A B from ⟨h1, h2⟩), pairE_ok h1 h2, hr]; rfl
  · refine ⟨?_, hb⟩
    unfold cmU
    rw [if_neg (show ¬ okP A B from hn), hr]
theorem flip_plain {p : Pl} (h : PlainP p) : PlainP (flipP p) := by
  unfold flipP
  split
  · rename_i h0
    rcases h with ⟨h1, _⟩ | h1
    · omega
    · exact .inr h1
  · exact h
theorem normA_flip_p (n : Nat) (s : Bool) (v : Nat) (e : Int) : (normA n (!s) v e).p = flipP (normA n s v e).p := by
  rw [normA_flip]
  by_cases h : (normA n s v e).err = 0
  · rw [if_pos h]
  · rw [if_neg h]
    have hz : (normA n s v e).p = zP := by
      unfold normA tellA at h ⊢
      repeat' split at h
      all_goals first | (simp at h; done) | skip
      all_goals simp_all
    rw [hz]; rfl
theorem normA_err3 (n : Nat) (s : Bool) (v : Nat) (e : Int) : (normA n s v e).err ≤ 3 := by
  rcases normA_err n s v e with h | h | h <;> omega
/-- what DecOrder's last tests want -/
theorem order_last {A B C : Ans} (hA : A.err = 0) (hB : B.err = 0) (pA : PlainP A.p) (pB : PlainP B.p) (pC : PlainP C.p) :
    (pairE B C = 0 → cmpP A.p B.p ≤ 0 → cmU B C ≤ 0 → cmU A C ≤ 0) ∧ ((addA A C).err = 0 → (addA B C).err = 0 → cmpP (addA A C).p (addA B C).p = cmpP A.p B.p) := by
  constructor
  · intro h1 h2 h3
    have hC : C.err = 0 := by
      refine Classical.byContradiction fun hn => ?_
      exact pairE_bad (A := B) (B := C) (fun k => hn k.2) h1
    unfold cmU at h3 ⊢
    rw [if_pos (show okP B C from ⟨hB, hC⟩)] at h3
    rw [if_pos (show okP A C from ⟨hA, hC⟩)]
    exact cmp_trans pA pB pC h2 h3
  · intro h1 h2
    obtain ⟨_, _, e1⟩ := addA_ok h1
    obtain ⟨_, _, e2⟩ := addA_ok h2
    rw [e1] at h1 ⊢
    rw [e2] at h2 ⊢
    exact cmp_sum pA pB h1 h2
theorem order_diff {A B : Ans} (hA : A.err = 0) (pA : PlainP A.p) (pB : PlainP B.p) (h : (addA A ⟨0, flipP B.p⟩).err = 0) :
    (cmpP A.p B.p < 0 ↔ (addA A ⟨0, flipP B.p⟩).p.neg = true) ∧ (cmpP A.p B.p = 0 ↔ (addA A ⟨0, flipP B.p⟩).p.m = 0) := by
  rw [addA_pp, if_pos hA] at h ⊢
  exact cmp_diff pA pB (flip_plain pB) h
/-- what DecRing's tests want -/
theorem ring_facts {A B C : Ans} (pA : PlainP A.p) (pB : PlainP B.p) (pC : PlainP C.p) :
    ((addA A B).err = 0 → (addV (addA A B).p (flipP B.p)).err = 0 → (addV (addA A B).p (flipP B.p)).p = A.p) ∧
    ((addA A B).err = 0 → (mulA A C).err = 0 → (mulA B C).err = 0 → (mulA ⟨0, (addA A B).p⟩ C).err = 0 → (addV (mulA A C).p (mulA B C).p).err = 0 → (mulA ⟨0, (addA A B).p⟩ C).p = (addV (mulA A C).p (mulA B C).p).p) := by
  constructor
  · intro h1 h2
    obtain ⟨_, _, e⟩ := addA_ok h1
    rw [e] at h1 h2 ⊢
    exact add_back pA pB (flip_plain pB) h1 h2
  · intro h1 h2 h3 h4 h5
    obtain ⟨_, _, e1⟩ := addA_ok h1
    obtain ⟨_, _, e2⟩ := mulA_ok h2
    obtain ⟨_, _, e3⟩ := mulA_ok h3
    obtain ⟨_, _, e4⟩ := mulA_ok h4
    rw [e4] at h4 ⊢
    rw [e2] at h2 h5 ⊢
    rw [e3] at h3 h5 ⊢
    rw [e1] at h1
    simp only at h4 ⊢
    rw [e1] at h4 ⊢
    exact mul_sum pA pB pC h1 h2 h3 h4 h5
theorem neg_err (n : Nat) (s : Bool) (v : Nat) (e : Int) : (normA n (!s) v e).err = (normA n s v e).err := by rw [normA_flip]
theorem cSame2 {p q : Pl} (h : p = q) (ip : inR p = true) (x y : Option Addr) (c d : Nat) (W : World) (r1 : Rd W .u32 x (dg 1000000000 p.m)) (r2 : Rd W .u32 y (dg 1000000000 q.m)) :
    Calls Tryd.prog 15 #[.agg #[.bool p.neg, .slice x (dg 1000000000 p.m).length c, .int .i64 p.e], .agg #[.bool q.neg, .slice y (dg 1000000000 q.m).length d, .int .i64 q.e]] W fun r w' => r = .returned (.bool true) ∧ Below W.heap.size W w' := by
  subst h
  have k := sameD_any p.neg p.neg x y c d _ _ p.e p.e W (few_pl ip) (few_pl ip) r1 r2
  rw [sameB_self7] at k
  exact k
end Go.Proofs.YtofeckdhhaoobaaDoor
