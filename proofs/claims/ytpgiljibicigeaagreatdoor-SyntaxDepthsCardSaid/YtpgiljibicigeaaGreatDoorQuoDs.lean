/- A range over a function whose iterator turns memory of its own choice: the statement out of the iterator's contract, where what the caller says abides that turn. -/
import Derived.RangeFuncNested
import Derived.RangeFuncBound
import Derived.RangeFuncCalls
import Derived.RangeFuncBox
import Derived.RangeFuncLeaves
import Derived.WalkKit
import Derived.OwnWalkIn
import Derived.TacticsInMore
import Derived.LoopNIn
import Derived.LoopIn
import Derived.Test.YtpgiljibicigeaaGreatDoorQuoCs
set_option linter.unusedVariables false
set_option linter.unusedSimpArgs false
namespace Go.Proofs.YtpgiljibicigeaaGreatDoor
open Go.RowKit

section
variable {F : Fence} {n : Nat} {P : Program}
/-- what an iterator may do between two rounds: St; J and Jx abide it -/
def ItGives (F : Fence) (n : Nat) (P : Program) (gf : Nat) (fa lb : Array Value) (encs : Int → Array Value) (Ok : List Int → Int → Prop) (St : World → World → Prop) (Rt Kp : World → World → Prop) (w0 : World) (S Sp : List Int → World → Prop) : Prop :=
  ∀ (l : Nat) (J Jx : List Int → World → Prop) (W : World), Rt w0 W → (∀ s A B, J s A → St A B → J s B) → (∀ s A B, Jx s A → St A B → Jx s B) →
    (∀ pre x A, Ok pre x → J pre A → YieldAt F (n - 1) P l (encs x) A fun e B => (e = .returned (.bool true) ∧ J (pre ++ [x]) B ∧ Kp A B) ∨ (e = .returned (.bool false) ∧ Jx (pre ++ [x]) B ∧ Kp A B)) →
    J [] W → CallsIn F n P gf (fa ++ #[.func (.yield l) #[] #[]] ++ lb) W fun e B => (∃ v, e = .returned v) ∧ ((∃ xs, S xs B ∧ J xs B) ∨ (∃ pre, Sp pre B ∧ Jx pre B))
/-- a record of the loop, in a state -/
def recOf (fn : FuncId) (tm : Array Value) (ps : Array Tmp) (assign body : Code) (D : Nat) (st : LoopState) (pe : Option Code) : Loop := { state := st, pending := pe, fn := fn, tmps := tm, params := ps, assign := assign, body := body, defers := D }
/-- the two blocks of the statement's own, at D -/
def Books (D : Nat) (r : Loop) (W : World) : Prop := W.heap[D + 1]? = some (.loop r) ∧ W.heap[D]? = some (.deferred (some []))
theorem Books.lt {D : Nat} {r : Loop} {W : World} (h : Books D r W) : D + 1 < W.heap.size := (Array.getElem?_eq_some_iff.1 h.1).1
theorem Books.keep {D : Nat} {r : Loop} {W W' : World} (h : Books D r W) (k : KeepsFrom D W W') : Books D r W' := ⟨k.same _ _ (by omega) h.1 rfl, k.same _ _ (Nat.le_refl _) h.2 rfl⟩
theorem Books.turn {D : Nat} {r : Loop} {W : World} (h : Books D r W) (r' : Loop) : Books D r' (W.putObj (D + 1) (.loop r')) := ⟨World.putObj_heap_same h.lt, (World.putObj_heap_other (by omega)).trans h.2⟩
theorem Books.laid (w : World) (r : Loop) : Books w.heap.size r ((w.alloc (.deferred (some []))).alloc (.loop r)) := by
  constructor
  · have := World.alloc_heap_new (w.alloc (.deferred (some []))) (.loop r)
    rwa [World.size_alloc] at this
  · exact (Below.heap_alloc _ _ _ (by simp)).trans (World.alloc_heap_new w _)

theorem range_st {g : Operand} {ps : Array Tmp} {assign body : Code} {Q : Exit → Act → World → Prop} {a : Act} {w : World} (hro : F.round = none) (h1 : 1 ≤ n)
    {gf : Nat} {fa lb : Array Value} (hg : a.eval g = .func (.func gf) fa lb) (hF : F.fn gf) (eg : ∀ args W, (callFunc gf args).run P W = .ok (.enter gf args) W)
    {encs : Int → Array Value} {Ok : List Int → Int → Prop} {St Rt Kp : World → World → Prop} {S Sp : List Int → World → Prop} (hit : ItGives F (n - 1) P gf fa lb encs Ok St Rt Kp w S Sp) (hps : ∀ x, (encs x).size = ps.size)
    (hRt : ∀ r, Rt w ((w.alloc (.deferred (some []))).alloc (.loop r))) (hSt : ∀ A B, St A B → KeepsFrom w.heap.size A B)
    (hKt : ∀ A B C, Kp A B → Kp B C → Kp A C) (hKb : ∀ (W : World) (o o' : Obj), W.heap[w.heap.size + 1]? = some o → o.isCells = false → Kp W (W.putObj (w.heap.size + 1) o'))
    (I Ix : List Int → World → Prop) (oI : OwnFrom w.heap.size I) (oIx : OwnFrom w.heap.size Ix) (sI : ∀ s A B, I s A → St A B → I s B) (sIx : ∀ s A B, Ix s A → St A B → Ix s B)
    (h0 : I [] w) (a1 : Int → Act)
    (hassign : ∀ (l : Nat) (x : Int) (W : World) (K : Act → World → Prop), K (a1 x) W → assign.wpIn (F.inRound l) (n - 1 - 1) P (Exit.then K (fun _ _ _ => False)) { tmps := (ps.zip (encs x)).foldl (fun t (p, v) => t.setIfInBounds p v) a.tmps, defers := [] } W)
    (hbody : ∀ (l : Nat) (pre : List Int) (x : Int) (W : World), Ok pre x → I pre W → body.wpIn (F.inRound l) (n - 1 - 1) P (fun e _ W' => (e = .normal ∧ KeepsFrom w.heap.size W W' ∧ Kp W W' ∧ I (pre ++ [x]) W') ∨ (e = .ret ∧ KeepsFrom w.heap.size W W' ∧ Kp W W' ∧ Ix (pre ++ [x]) W')) (a1 x) W)
    (hdone : ∀ (D : Nat) (xs : List Int) (W0 W : World) (r : Loop), w.heap.size ≤ D → S xs W0 → I xs W → W = W0.putObj (D + 1) (.loop r) → W.heap[D]? = some (.deferred (some [])) → Q .normal { a with defers := { target := .collected D, args := #[] } :: a.defers } W)
    (hstop : ∀ (D : Nat) (pre : List Int) (W0 W : World) (r : Loop), w.heap.size ≤ D → Sp pre W0 → Ix pre W → W = W0.putObj (D + 1) (.loop r) → W.heap[D]? = some (.deferred (some [])) → Code.ret.wpIn F n P Q { a with defers := { target := .collected D, args := #[] } :: a.defers } W) :
    (Code.rangeFunc g ps assign body).wpIn F n P Q a w := by
  refine wpIn_rangeFunc fun fn hfn => ?_
  rw [hro]
  obtain ⟨rc, hrc⟩ : ∃ rc, rc = recOf fn a.tmps ps assign body w.heap.size := ⟨_, rfl⟩
  obtain ⟨V, hV⟩ : ∃ V, V = (w.alloc (.deferred (some []))).alloc (.loop (rc .ready none)) := ⟨_, rfl⟩
  have bV : Books w.heap.size (rc .ready none) V := by rw [hV]; exact Books.laid w _
  have iV : I [] V := by rw [hV]; exact oI.alloc _ (oI.alloc _ h0)
  refine ⟨w.heap.size + 1, [{ target := .collected w.heap.size, args := #[] }], V, { target := .fn (.func gf) lb, args := fa ++ #[.func (.yield (w.heap.size + 1)) #[] #[]] }, V, gf, fa ++ #[.func (.yield (w.heap.size + 1)) #[] #[]] ++ lb, V, ?_, ?_, ?_, ?_, fun _ => h1, ?_⟩
  · rw [hV, hrc]; exact run_enterLoop_outer _ _ _ _ _
  · simp only [resolve, hg]; simp [go_sem]
  · intro f' h; simp [Target.leads] at h; subst h; exact hF
  · simp [invoke, go_sem, eg]
  · have key := hit (w.heap.size + 1) (fun s W => I s W ∧ Books w.heap.size (rc .ready none) W) (fun s W => Ix s W ∧ Books w.heap.size (rc .done (some .ret)) W) V (by rw [hV]; exact hRt _)
      (fun s A B h st => ⟨sI s A B h.1 st, h.2.keep (hSt A B st)⟩) (fun s A B h st => ⟨sIx s A B h.1 st, h.2.keep (hSt A B st)⟩) ?_ ⟨iV, bV⟩
    · refine key.mono ?_
      rintro e W2 ⟨⟨v, rfl⟩, ⟨xs, hs, hi, hb⟩ | ⟨pre, hs, hi, hb⟩⟩
      · have hend := run_endLoop (P := P) hb.1 (by rw [hrc]; simp [recOf])
        rw [hrc] at hend
        exact ⟨none, _, hend, hdone _ xs W2 _ _ (Nat.le_refl _) hs (oI.putObj _ hi (by omega) hb.1 rfl) rfl ((World.putObj_heap_other (by omega)).trans hb.2)⟩
      · have hend := run_endLoop (P := P) hb.1 (by rw [hrc]; simp [recOf])
        rw [hrc] at hend
        exact ⟨some .ret, _, hend, hstop _ pre W2 _ _ (Nat.le_refl _) hs (oIx.putObj _ hi (by omega) hb.1 rfl) rfl ((World.putObj_heap_other (by omega)).trans hb.2)⟩
    · rintro pre x W hok ⟨hi, hb⟩
      have hy := run_yield (P := P) (args := encs x) hb.1 (by rw [hrc]; exact hps x)
      rw [hrc] at hy
      refine ⟨fn, _, assign, body, hy, roundIn_of_wpIn hfn (hassign _ x W _ ⟨_, run_beginRound hb.1 (by rw [hrc]; rfl), ?_⟩)⟩
      have hB := hb.turn ({ rc .ready none with state := .busy })
      have hk0 := hKb W _ (.loop { rc .ready none with state := .busy }) hb.1 rfl
      refine wpIn_mono (hbody _ pre x _ hok (oI.putObj _ hi (by omega) hb.1 rfl)) ?_
      rintro e a3 W3 (⟨rfl, k3, p3, i3⟩ | ⟨rfl, k3, p3, i3⟩)
      · have hb3 := hB.keep k3
        have hend := run_endRound (P := P) none hb3.1
        rw [hrc] at hend
        have hk1 := hKb W3 _ (.loop (rc .ready none)) hb3.1 rfl
        rw [hrc] at hk1
        exact ⟨_, _, hend, .inl ⟨rfl, ⟨oI.putObj _ i3 (by omega) hb3.1 rfl, by rw [hrc]; rw [hrc] at hb3; exact hb3.turn _⟩, hKt _ _ _ (hKt _ _ _ hk0 p3) hk1⟩⟩
      · have hb3 := hB.keep k3
        have hend := run_endRound (P := P) (some .ret) hb3.1
        rw [hrc] at hend
        have hk1 := hKb W3 _ (.loop (rc .done (some .ret))) hb3.1 rfl
        rw [hrc] at hk1
        exact ⟨_, _, hend, .inr ⟨rfl, ⟨oIx.putObj _ i3 (by omega) hb3.1 rfl, by rw [hrc]; rw [hrc] at hb3; exact hb3.turn _⟩, hKt _ _ _ (hKt _ _ _ hk0 p3) hk1⟩⟩
end
end Go.Proofs.YtpgiljibicigeaaGreatDoor

/- quote's iterator r.points. -/
namespace Go.Proofs.YtpgiljibicigeaaGreatDoor
open Go.RowKit UM QM

attribute [local go_sem] Oper.semAt_some

theorem RB.below {w w' : World} {g : Nat} {a : Option Addr} {cap : Nat} {l : List Nat} {k err : Nat} (h : RB w g a cap l k err) (hb : Below w.heap.size w w') : RB w' g a cap l k err := by
  obtain ⟨h0, h1, h2, hf, hr, ha, hk, hl, hlo, hcp, hsh, hsn⟩ := h
  exact ⟨keepC h0 hb, keepC h1 hb, keepC h2 hb, fun j => (hb.frozen (p := ⟨g, j, none⟩) (show g < w.heap.size from lt_of_cell h0)).trans (hf j), hr.below hb, ha, hk, hl, hlo, hcp, hsh.below hb, hsn⟩
/-- what has been told, and where the reader stands -/
inductive Rch (l : List Nat) : List Int → Nat → Prop
  | start (h : pk l 0 = 34) : Rch l [] 1
  | step {pre : List Int} {k : Nat} (h : Rch l pre k) (h1 : pk l k ≠ 34) (h2 : (pieceF l k).2.1 = true) : Rch l (pre ++ [(pieceF l k).1]) (pieceF l k).2.2
/-- how it ends -/
def Fin (l : List Nat) (xs : List Int) (k err : Nat) : Prop :=
  (pk l 0 ≠ 34 ∧ xs = [] ∧ k = 0 ∧ err = faultF l 0) ∨ (∃ j, Rch l xs j ∧ pk l j = 34 ∧ k = j + 1 ∧ err = 0) ∨ (∃ j, Rch l xs j ∧ pk l j ≠ 34 ∧ (pieceF l j).2.1 = false ∧ k = (pieceF l j).2.2 ∧ err = faultF l k)
theorem unitF_ge {l : List Nat} : ∀ {n k h : Nat}, k ≤ (unitF l n k h).2.2 := by
  intro n
  induction n with
  | zero => intro k h; exact Nat.le_refl _
  | succ n ih =>
    intro k h
    simp only [unitF]
    split
    · exact Nat.le_refl _
    · exact Nat.le_trans (Nat.le_succ k) ih
theorem un_ge (l : List Nat) (k : Nat) : k ≤ (un l k).2.2 := unitF_ge
theorem low_ge (l : List Nat) (k : Nat) : k ≤ (lowF l k).2.2 := by
  unfold lowF
  have := un_ge l (k + 2)
  split
  · exact Nat.le_refl _
  · split
    · exact Nat.le_succ k
    · simp only; omega
theorem coded_ge (l : List Nat) (k : Nat) : k ≤ (codedF l k).2.2 := by
  unfold codedF
  have h1 := un_ge l k
  have h2 := low_ge l (un l k).2.2
  repeat' split
  all_goals simp only; omega
theorem esc_ge (l : List Nat) (k : Nat) : k ≤ (escF l k).2.2 := by
  unfold escF
  have h1 := coded_ge l (k + 1)
  repeat' split
  all_goals (try simp only)
  all_goals omega
theorem piece_adv {l : List Nat} {k : Nat} (h : (pieceF l k).2.1 = true) (_hk : k < l.length) : k < (pieceF l k).2.2 := by
  unfold pieceF at h ⊢
  by_cases c1 : pk l k < 32
  · rw [if_pos c1] at h; cases h
  · rw [if_neg c1] at h ⊢
    by_cases c2 : 127 < pk l k
    · rw [if_pos c2] at h ⊢
      unfold pointF at h ⊢
      by_cases c3 : (dcd ((l.drop k).take 4)).2.2 = true
      · rw [if_pos c3]
        have := (dcd_wd (dcd_ne c3)).1
        simp only; omega
      · rw [if_neg c3] at h
        split at h <;> cases h
    · rw [if_neg c2] at h ⊢
      by_cases c3 : pk l k = 92
      · rw [if_pos c3]
        have := esc_ge l (k + 1)
        omega
      · rw [if_neg c3]; simp only; omega
theorem coded_pt {l : List Nat} {k : Nat} (h : (codedF l k).2.1 = true) : ∃ p, Pt p ∧ (codedF l k).1 = ((p : Nat) : Int) := by
  unfold codedF at h ⊢
  have hu := un_lt l k
  generalize un l k = U at *
  obtain ⟨u1, u2, u3⟩ := U
  simp only at h hu ⊢
  cases u2
  · rw [if_pos rfl] at h; cases h
  rw [if_neg (by decide)] at h ⊢
  by_cases c1 : u1 < 55296 ∨ 57343 < u1
  · rw [if_pos c1]
    exact ⟨u1.toNat, ⟨by omega, by omega⟩, by simp only; omega⟩
  rw [if_neg c1]
  by_cases c2 : 56320 ≤ u1
  · rw [if_pos c2]; exact ⟨65533, by decide, rfl⟩
  rw [if_neg c2]
  by_cases c3 : (lowF l u3).2.1 = true
  · rw [if_pos c3]
    have hl : 56320 ≤ (lowF l u3).1 ∧ (lowF l u3).1 ≤ 57343 := by
      unfold lowF at c3 ⊢
      by_cases d1 : pk l u3 ≠ 92
      · rw [if_pos d1] at c3; cases c3
      rw [if_neg d1] at c3 ⊢
      by_cases d2 : pk l (u3 + 1) ≠ 117
      · rw [if_pos d2] at c3; cases c3
      rw [if_neg d2] at c3 ⊢
      simp only [Bool.and_eq_true, decide_eq_true_eq] at c3
      exact ⟨c3.1.2, c3.2⟩
    exact ⟨(65536 + 1024 * (u1 - 55296) + (lowF l u3).1 - 56320).toNat, ⟨by omega, by omega⟩, by simp only; omega⟩
  · rw [if_neg c3]; exact ⟨65533, by decide, rfl⟩
theorem pk_pt {l : List Nat} {k : Nat} (h : 0 ≤ pk l k) (h2 : pk l k ≤ 127) : ∃ p, Pt p ∧ pk l k = ((p : Nat) : Int) := ⟨(pk l k).toNat, ⟨by omega, by omega⟩, by omega⟩
theorem esc_pt {l : List Nat} {k : Nat} (h : (escF l k).2.1 = true) : ∃ p, Pt p ∧ (escF l k).1 = ((p : Nat) : Int) := by
  unfold escF at h ⊢
  by_cases c1 : pk l k = 34 ∨ pk l k = 92 ∨ pk l k = 47
  · rw [if_pos c1]; exact pk_pt (by omega) (by omega)
  rw [if_neg c1] at h ⊢
  by_cases c2 : pk l k = 98
  · rw [if_pos c2]; exact ⟨8, by decide, rfl⟩
  rw [if_neg c2] at h ⊢
  by_cases c3 : pk l k = 102
  · rw [if_pos c3]; exact ⟨12, by decide, rfl⟩
  rw [if_neg c3] at h ⊢
  by_cases c4 : pk l k = 110
  · rw [if_pos c4]; exact ⟨10, by decide, rfl⟩
  rw [if_neg c4] at h ⊢
  by_cases c5 : pk l k = 114
  · rw [if_pos c5]; exact ⟨13, by decide, rfl⟩
  rw [if_neg c5] at h ⊢
  by_cases c6 : pk l k = 116
  · rw [if_pos c6]; exact ⟨9, by decide, rfl⟩
  rw [if_neg c6] at h ⊢
  by_cases c7 : pk l k = 117
  · rw [if_pos c7] at h ⊢; exact coded_pt h
  rw [if_neg c7] at h; cases h
theorem piece_pt {l : List Nat} {k : Nat} (_ : LM.Lo 256 l) (h : (pieceF l k).2.1 = true) : ∃ p, Pt p ∧ (pieceF l k).1 = ((p : Nat) : Int) := by
  unfold pieceF at h ⊢
  by_cases c1 : pk l k < 32
  · rw [if_pos c1] at h; cases h
  rw [if_neg c1] at h ⊢
  by_cases c2 : 127 < pk l k
  · rw [if_pos c2] at h ⊢
    unfold pointF at h ⊢
    by_cases c3 : (dcd ((l.drop k).take 4)).2.2 = true
    · rw [if_pos c3]
      rcases dcd_cases ((l.drop k).take 4) with ⟨p, t, hp, _, e⟩ | ⟨_, e⟩ | ⟨_, e⟩
      · rw [e]; exact ⟨p, hp, rfl⟩
      · rw [e] at c3; cases c3
      · rw [e] at c3; cases c3
    · rw [if_neg c3] at h
      split at h <;> cases h
  rw [if_neg c2] at h ⊢
  by_cases c3 : pk l k = 92
  · rw [if_pos c3] at h ⊢; exact esc_pt h
  · rw [if_neg c3]; exact pk_pt (by omega) (by omega)
theorem pk_ne {l : List Nat} {k : Nat} (h : (pieceF l k).2.1 = true) : k < l.length := by
  refine pk_pos fun e => ?_
  unfold pieceF at h
  rw [if_pos (by rw [e]; decide)] at h
  cases h
theorem rch_len {l : List Nat} {pre : List Int} {k : Nat} (h : Rch l pre k) : pre.length ≤ k := by
  induction h with
  | start h => exact Nat.zero_le _
  | step h h1 h2 ih => have := piece_adv h2 (pk_ne h2); rw [List.length_append, List.length_singleton]; omega
/-- a piece has at least as many bytes as its code point -/
theorem unitF_all {l : List Nat} : ∀ {n k h : Nat}, (unitF l n k h).2.1 = true → (unitF l n k h).2.2 = k + n := by
  intro n
  induction n with
  | zero => intro k h _; rfl
  | succ n ih =>
    intro k h ht
    simp only [unitF] at ht ⊢
    split at ht
    · cases ht
    · rename_i d hd
      have e := ih ht
      rw [e]; omega
theorem un_four {l : List Nat} {k : Nat} (h : (un l k).2.1 = true) : (un l k).2.2 = k + 4 := unitF_all h
theorem low_six {l : List Nat} {k : Nat} (h : (lowF l k).2.1 = true) : (lowF l k).2.2 = k + 6 := by
  unfold lowF at h ⊢
  by_cases d1 : pk l k ≠ 92
  · rw [if_pos d1] at h; cases h
  rw [if_neg d1] at h ⊢
  by_cases d2 : pk l (k + 1) ≠ 117
  · rw [if_pos d2] at h; cases h
  rw [if_neg d2] at h ⊢
  simp only [Bool.and_eq_true, decide_eq_true_eq] at h
  have := un_four h.1.1
  simp only; omega
theorem en_le3 {p : Nat} (h : p < 65536) : en p ≤ 3 := by
  unfold en
  repeat' split
  all_goals omega
theorem en_le1 {p : Nat} (h : p < 128) : en p ≤ 1 := by unfold en; rw [if_pos h]; exact Nat.le_refl _
theorem coded_wide {l : List Nat} {k p : Nat} (h : (codedF l k).2.1 = true) (hp : (codedF l k).1 = ((p : Nat) : Int)) : k + en p ≤ (codedF l k).2.2 := by
  unfold codedF at h hp ⊢
  have hu := un_lt l k
  have hE := un_four (l := l) (k := k)
  generalize un l k = U at *
  obtain ⟨u1, u2, u3⟩ := U
  simp only at h hu hE hp ⊢
  cases u2
  · rw [if_pos rfl] at h; cases h
  rw [if_neg (by decide)] at h hp ⊢
  have hE' := hE rfl
  by_cases c1 : u1 < 55296 ∨ 57343 < u1
  · rw [if_pos c1] at hp ⊢
    simp only at hp ⊢
    have := en_le3 (p := p) (by omega)
    omega
  rw [if_neg c1] at hp ⊢
  by_cases c2 : 56320 ≤ u1
  · rw [if_pos c2] at hp ⊢
    simp only at hp ⊢
    have := en_le3 (p := p) (by omega)
    omega
  rw [if_neg c2] at hp ⊢
  by_cases c3 : (lowF l u3).2.1 = true
  · rw [if_pos c3] at hp ⊢
    have h6 := low_six c3
    have := (en_pos p).2
    simp only
    omega
  · rw [if_neg c3] at hp ⊢
    simp only at hp ⊢
    have := en_le3 (p := p) (by omega)
    omega
theorem esc_wide {l : List Nat} {k p : Nat} (h : (escF l k).2.1 = true) (hp : (escF l k).1 = ((p : Nat) : Int)) : k + en p ≤ (escF l k).2.2 := by
  unfold escF at h hp ⊢
  by_cases c1 : pk l k = 34 ∨ pk l k = 92 ∨ pk l k = 47
  · rw [if_pos c1] at hp ⊢
    simp only at hp ⊢
    have := en_le1 (p := p) (by omega)
    omega
  rw [if_neg c1] at h hp ⊢
  by_cases c2 : pk l k = 98
  · rw [if_pos c2] at hp ⊢; simp only at hp ⊢; have := en_le1 (p := p) (by omega); omega
  rw [if_neg c2] at h hp ⊢
  by_cases c3 : pk l k = 102
  · rw [if_pos c3] at hp ⊢; simp only at hp ⊢; have := en_le1 (p := p) (by omega); omega
  rw [if_neg c3] at h hp ⊢
  by_cases c4 : pk l k = 110
  · rw [if_pos c4] at hp ⊢; simp only at hp ⊢; have := en_le1 (p := p) (by omega); omega
  rw [if_neg c4] at h hp ⊢
  by_cases c5 : pk l k = 114
  · rw [if_pos c5] at hp ⊢; simp only at hp ⊢; have := en_le1 (p := p) (by omega); omega
  rw [if_neg c5] at h hp ⊢
  by_cases c6 : pk l k = 116
  · rw [if_pos c6] at hp ⊢; simp only at hp ⊢; have := en_le1 (p := p) (by omega); omega
  rw [if_neg c6] at h hp ⊢
  by_cases c7 : pk l k = 117
  · rw [if_pos c7] at h hp ⊢
    have := coded_wide h hp
    omega
  rw [if_neg c7] at h; cases h
theorem piece_wide {l : List Nat} {k p : Nat} (h : (pieceF l k).2.1 = true) (hp : (pieceF l k).1 = ((p : Nat) : Int)) : k + en p ≤ (pieceF l k).2.2 := by
  unfold pieceF at h hp ⊢
  by_cases c1 : pk l k < 32
  · rw [if_pos c1] at h; cases h
  rw [if_neg c1] at h hp ⊢
  by_cases c2 : 127 < pk l k
  · rw [if_pos c2] at h hp ⊢
    unfold pointF at h hp ⊢
    by_cases c3 : (dcd ((l.drop k).take 4)).2.2 = true
    · rw [if_pos c3] at hp ⊢
      rcases dcd_cases ((l.drop k).take 4) with ⟨q, t, hq, _, e⟩ | ⟨_, e⟩ | ⟨_, e⟩
      · rw [e] at hp ⊢
        have hqp : q = p := Int.ofNat.inj hp
        subst hqp
        exact Nat.le_refl _
      · rw [e] at c3; cases c3
      · rw [e] at c3; cases c3
    · rw [if_neg c3] at h
      split at h <;> cases h
  rw [if_neg c2] at h hp ⊢
  by_cases c3 : pk l k = 92
  · rw [if_pos c3] at h hp ⊢
    have := esc_wide h hp
    omega
  · rw [if_neg c3] at hp ⊢
    simp only at hp ⊢
    have := en_le1 (p := p) (by omega)
    omega
theorem rch_wide {l : List Nat} {pre : List Int} {k : Nat} (h : Rch l pre k) : ∀ ps : List Nat, pre = ps.map (fun p => ((p : Nat) : Int)) → (encL ps).length ≤ k := by
  induction h with
  | start h =>
    intro ps e
    have : ps = [] := by cases ps with | nil => rfl | cons => cases e
    subst this
    exact Nat.zero_le _
  | step h h1 h2 ih =>
    intro ps e
    rcases List.eq_nil_or_concat ps with rfl | ⟨qs, q, rfl⟩
    · simp at e
    · rw [List.concat_eq_append] at e ⊢
      rw [List.map_append, List.map_cons, List.map_nil] at e
      obtain ⟨e1, e2⟩ := List.append_inj' e rfl
      have hq := piece_wide h2 (by simpa using e2)
      have hi := ih qs e1
      rw [encL_append, encL_one, List.length_append, enc_len]
      omega
def Kpr (g : Nat) (a : Option Addr) (cap : Nat) (l : List Nat) (A B : World) : Prop := ∀ k err, RB A g a cap l k err → RB B g a cap l k err
def EndS (g : Nat) (a : Option Addr) (cap : Nat) (l : List Nat) (xs : List Int) (W : World) : Prop := ∃ k err, Fin l xs k err ∧ RB W g a cap l k err
def EndP (g : Nat) (a : Option Addr) (cap : Nat) (l : List Nat) (xs : List Int) (W : World) : Prop := ∃ k, Rch l xs k ∧ RB W g a cap l k 0
theorem RB.err {w : World} {g : Nat} {a : Option Addr} {cap : Nat} {l : List Nat} {k err : Nat} (h : RB w g a cap l k err) (e' : Nat) : RB (w.setCell ⟨g, 2, none⟩ (.int .i64 (e' : Int))) g a cap l k e' := by
  obtain ⟨h0, h1, h2, hf, hr, ha, hk2, hl, hlo, hcp, hsh, hsn⟩ := h
  exact ⟨by simp [go_sem, h0], by simp [go_sem, h1], by simp [go_sem, h2], fun j => by simp [go_sem, hf j], Rd.gbc hr (gb_set (gb_refl w (some g)) 2 _) ha, ha, hk2, hl, hlo, hcp, hsh.gb (gb_set (gb_refl w (some g)) 2 _) hsn, hsn⟩
/-- what is left, off the box -/
def mz (g : Nat) (l : List Nat) (w : World) : Nat := match w.cell? ⟨g, 1, none⟩ with | some (.int _ n) => l.length + 1 - n.toNat | _ => 0
theorem mz_is {w : World} {g : Nat} {a : Option Addr} {cap : Nat} {l : List Nat} {k err : Nat} (h : RB w g a cap l k err) : mz g l w = l.length + 1 - k := by
  unfold mz; rw [h.2.1]; simp
set_option maxRecDepth 100000 in
set_option maxHeartbeats 4000000 in
theorem points_gives (g : Nat) (a : Option Addr) (cap : Nat) (l : List Nat) (w : World) :
    ItGives Fence.wide 2 Tryz.prog 81 #[.pointer (some ⟨g, 0, none⟩)] #[] (fun x => #[.int .i64 x]) (fun pre x => (∃ p, Pt p ∧ x = ((p : Nat) : Int)) ∧ pre.length ≤ l.length ∧ ∀ ps : List Nat, pre ++ [x] = ps.map (fun p => ((p : Nat) : Int)) → (encL ps).length ≤ l.length) (fun A B => A.grownBy B (some g)) (fun _ W => RB W g a cap l 0 0) (Kpr g a cap l) w (EndS g a cap l) (EndP g a cap l) := by
  intro lp J Jx W hB sJ sX hY h0
  have SJ := Lib.hid sJ; have SX := Lib.hid sX; have HY := Lib.hid hY; have HB := Lib.hid hB; have HJ := Lib.hid h0
  clear sJ sX hY hB h0
  by_cases c0 : pk l 0 = 34
  · have HT := Lib.hid (callsIn_wide (n := 1) |>.2 (take_yes 34 g a cap l 0 W HB.out c0 (by decide)))
    have HC := Lib.hid c0
    clear c0
    refine callsIn_of_wp Tryz.func81 rfl trivial ?_ rfl
    simp only [Tryz.ntmps81, List.size_toArray, List.length_cons, List.length_nil, Nat.reduceAdd, Nat.reduceSub, Array.replicate_succ, Array.replicate_zero, List.push_toArray, List.append_toArray, List.nil_append, List.cons_append]
    gi_wp2
    refine ⟨trivial, HT.out.mono ?_⟩
    rintro e w1 ⟨rfl, hb1, hg1⟩
    have HB1 := Lib.hid hb1
    have HJ1 := Lib.hid (SJ.out _ _ _ HJ.out hg1)
    clear hb1 hg1 HT
    gi_wp2
    gi_loopw [4, 5] (fun _ _ wr => ∃ (pre : List Int) (k : Nat), Hid (Rch l pre k) ∧ Hid (J pre wr) ∧ Hid (RB wr g a cap l k 0)) (fun _ _ wr => mz g l wr)
    case atStart => exact ⟨[], 1, Lib.hid (Rch.start HC.out), HJ1, HB1⟩
    case round =>
      obtain ⟨pre, k, HR, HJr, HBr⟩ := hrel
      by_cases c1 : pk l k = 34
      · have HT := Lib.hid (callsIn_wide (n := 1) |>.2 (take_yes 34 g a cap l k wr HBr.out c1 (by decide)))
        have HC1 := Lib.hid c1
        clear c1
        gi_wp2
        refine ⟨trivial, HT.out.mono ?_⟩
        rintro e w2 ⟨rfl, hb2, hg2⟩
        have HB2 := Lib.hid hb2
        have HJ2 := Lib.hid (SJ.out _ _ _ HJr.out hg2)
        clear hb2 hg2 HT
        gi_wp2
        go_end0
        exact ⟨⟨_, rfl⟩, .inl ⟨pre, ⟨_, _, .inr (.inl ⟨k, HR.out, HC1.out, rfl, rfl⟩), HB2.out⟩, HJ2.out⟩⟩
      · have HT := Lib.hid (callsIn_wide (n := 1) |>.2 (take_no 34 g a cap l k wr HBr.out c1))
        have HC1 := Lib.hid c1
        clear c1
        have HP := Lib.hid (fun W r => callsIn_wide (n := 1) |>.2 (piece_any g a cap l k W r))
        have HF := Lib.hid (fun k' W r => callsIn_wide (n := 1) |>.2 (fault_any g a cap l k' 0 W r))
        obtain ⟨Q, hQ⟩ : ∃ Q, Q = pieceF l k := ⟨_, rfl⟩
        have HQ := Lib.hid hQ
        unfold ResP at HP
        rw [← hQ] at HP
        clear hQ
        obtain ⟨x, ok, k'⟩ := Q
        cases ok
        · gi_wp2
          refine ⟨trivial, HT.out.mono ?_⟩
          rintro e w2 ⟨rfl, hb2, hg2⟩
          have HB2 := Lib.hid hb2
          have HJ2 := Lib.hid (SJ.out _ _ _ HJr.out hg2)
          clear hb2 hg2 HT
          gi_wp2
          refine ⟨trivial, (HP.out _ HB2.out).mono ?_⟩
          rintro e w3 ⟨rfl, hb3, hg3⟩
          have HB3 := Lib.hid hb3
          have HJ3 := Lib.hid (SJ.out _ _ _ HJ2.out hg3)
          clear hb3 hg3
          gi_wp2
          refine ⟨trivial, (HF.out _ _ HB3.out).mono ?_⟩
          rintro e w4 ⟨rfl, n4, rfl⟩
          obtain ⟨q0, q1, q2, qf, _⟩ := HB3.out
          gi_wp2
          refine bodyPost_ret (results_none rfl _ _ _) rfl ?_
          have hQ := HQ.out
          exact ⟨⟨_, rfl⟩, .inl ⟨pre, ⟨k', faultF l k', .inr (.inr ⟨k, HR.out, HC1.out, by rw [← hQ], by rw [← hQ], rfl⟩), (HB3.out.dN _).err _⟩, SJ.out _ _ _ HJ3.out (gb_set (gb_dN (gb_refl _ _) _) _ _)⟩⟩
        · gi_wp2
          refine ⟨trivial, HT.out.mono ?_⟩
          rintro e w2 ⟨rfl, hb2, hg2⟩
          have HB2 := Lib.hid hb2
          have HJ2 := Lib.hid (SJ.out _ _ _ HJr.out hg2)
          clear hb2 hg2 HT
          gi_wp2
          refine ⟨trivial, (HP.out _ HB2.out).mono ?_⟩
          rintro e w3 ⟨rfl, hb3, hg3⟩
          have HB3 := Lib.hid hb3
          have HJ3 := Lib.hid (SJ.out _ _ _ HJ2.out hg3)
          clear hb3 hg3
          have hok0 : (pieceF l k).2.1 = true := by rw [← HQ.out]
          have hpt := piece_pt HBr.out.facts.2.2 hok0
          rw [← HQ.out] at hpt
          have hwd : ∀ ps : List Nat, pre ++ [x] = ps.map (fun p => ((p : Nat) : Int)) → (encL ps).length ≤ l.length := by
            have hst := Rch.step HR.out HC1.out hok0
            rw [← HQ.out] at hst
            exact fun ps e => Nat.le_trans (rch_wide hst ps e) HB3.out.facts.1
          obtain ⟨fn, tmps, assign, body, hy, hR⟩ := HY.out pre x w3 ⟨hpt, Nat.le_trans (rch_len HR.out) HBr.out.facts.1, hwd⟩ HJ3.out
          clear hok0 hpt hwd
          gi_wp2
          refine hR.mono ?_
          rintro e w4 (⟨rfl, hJ4, hk4⟩ | ⟨rfl, hJx4, hk4⟩)
          · have HB4 := Lib.hid (hk4 _ _ HB3.out)
            have hQ := HQ.out
            have hok : (pieceF l k).2.1 = true := by rw [← hQ]
            have hst := Rch.step HR.out HC1.out hok
            have hadv := piece_adv hok (pk_ne hok)
            have hkl := HBr.out.facts.1
            rw [← hQ] at hst hadv
            simp only at hst hadv
            have HST := Lib.hid hst
            have HAD := Lib.hid hadv
            have HJ4 := Lib.hid hJ4
            clear hst hadv hQ hok hJ4 hk4
            have hm1 := Lib.hid (mz_is HB4.out)
            have hm0 := Lib.hid (mz_is HBr.out)
            gi_wp2
            go_roundw
            case rel => exact ⟨_, _, HST, HJ4, HB4⟩
            case measure => rw [hm1.out, hm0.out]; have := HAD.out; omega
          · have HB4 := Lib.hid (hk4 _ _ HB3.out)
            have hQ := HQ.out
            have hok : (pieceF l k).2.1 = true := by rw [← hQ]
            have hst := Rch.step HR.out HC1.out hok
            rw [← hQ] at hst
            simp only at hst
            have HST := Lib.hid hst
            have HJ4 := Lib.hid hJx4
            clear hst hQ hok hJx4 hk4
            gi_wp2
            refine bodyPost_ret (results_none rfl _ _ _) rfl ?_
            exact ⟨⟨_, rfl⟩, .inr ⟨_, ⟨_, HST.out, HB4.out⟩, HJ4.out⟩⟩
  · have HT := Lib.hid (callsIn_wide (n := 1) |>.2 (take_no 34 g a cap l 0 W HB.out c0))
    have HC := Lib.hid c0
    clear c0
    have HF := Lib.hid (fun k' W r => callsIn_wide (n := 1) |>.2 (fault_any g a cap l k' 0 W r))
    refine callsIn_of_wp Tryz.func81 rfl trivial ?_ rfl
    simp only [Tryz.ntmps81, List.size_toArray, List.length_cons, List.length_nil, Nat.reduceAdd, Nat.reduceSub, Array.replicate_succ, Array.replicate_zero, List.push_toArray, List.append_toArray, List.nil_append, List.cons_append]
    gi_wp2
    refine ⟨trivial, HT.out.mono ?_⟩
    rintro e w1 ⟨rfl, hb1, hg1⟩
    have HB1 := Lib.hid hb1
    have HJ1 := Lib.hid (SJ.out _ _ _ HJ.out hg1)
    clear hb1 hg1 HT
    gi_wp2
    refine ⟨trivial, (HF.out _ _ HB1.out).mono ?_⟩
    rintro e w4 ⟨rfl, n4, rfl⟩
    obtain ⟨q0, q1, q2, qf, _⟩ := HB1.out
    gi_wp2
    refine bodyPost_ret (results_none rfl _ _ _) rfl ?_
    exact ⟨⟨_, rfl⟩, .inl ⟨[], ⟨0, faultF l 0, .inl ⟨HC.out, rfl, rfl, rfl⟩, (HB1.out.dN _).err _⟩, SJ.out _ _ _ HJ1.out (gb_set (gb_dN (gb_refl _ _) _) _ _)⟩⟩
end Go.Proofs.YtpgiljibicigeaaGreatDoor

/- quote: putPiece walked. -/
namespace Go.Proofs.YtpgiljibicigeaaGreatDoor
open Go.RowKit UM QM

end Go.Proofs.YtpgiljibicigeaaGreatDoor
