/- A range over a function whose iterator turns memory of its own choice: the statement out of the iterator's contract, where what the caller says abides that turn. -/
import Derived.RangeFuncNested
import Derived.RangeFuncBound
import Derived.RangeFuncCalls
import Derived.RangeFuncBox
import Derived.RangeFuncLeaves
import Derived.WalkKit
import Derived.OwnWalkIn
import Derived.TacticsInMore
import Derived.LoopNIn
import Derived.LoopIn
import Derived.Test.YtpgiljibicigeaaGreatDoorUtfEs
set_option linter.unusedVariables false
set_option linter.unusedSimpArgs false
namespace Go.Proofs.YtpgiljibicigeaaGreatDoor
open Go.RowKit

section
variable {F : Fence} {n : Nat} {P : Program}
/-- what an iterator may do between two rounds: St; J and Jx abide it -/
def ItGives (F : Fence) (n : Nat) (P : Program) (gf : Nat) (fa lb : Array Value) (encs : Int → Array Value) (Ok : List Int → Int → Prop) (St : World → World → Prop) (Rt Kp : World → World → Prop) (w0 : World) (S Sp : List Int → World → Prop) : Prop :=
  ∀ (l : Nat) (J Jx : List Int → World → Prop) (W : World), Rt w0 W → (∀ s A B, J s A → St A B → J s B) → (∀ s A B, Jx s A → St A B → Jx s B) →
    (∀ pre x A, Ok pre x → J pre A → YieldAt F (n - 1) P l (encs x) A fun e B => (e = .returned (.bool true) ∧ J (pre ++ [x]) B ∧ Kp A B) ∨ (e = .returned (.bool false) ∧ Jx (pre ++ [x]) B ∧ Kp A B)) →
    J [] W → CallsIn F n P gf (fa ++ #[.func (.yield l) #[] #[]] ++ lb) W fun e B => (∃ v, e = .returned v) ∧ ((∃ xs, S xs B ∧ J xs B) ∨ (∃ pre, Sp pre B ∧ Jx pre B))
/-- a record of the loop, in a state -/
def recOf (fn : FuncId) (tm : Array Value) (ps : Array Tmp) (assign body : Code) (D : Nat) (st : LoopState) (pe : Option Code) : Loop := { state := st, pending := pe, fn := fn, tmps := tm, params := ps, assign := assign, body := body, defers := D }
/-- the two blocks of the statement's own, at D -/
def Books (D : Nat) (r : Loop) (W : World) : Prop := W.heap[D + 1]? = some (.loop r) ∧ W.heap[D]? = some (.deferred (some []))
theorem Books.lt {D : Nat} {r : Loop} {W : World} (h : Books D r W) : D + 1 < W.heap.size := (Array.getElem?_eq_some_iff.1 h.1).1
theorem Books.keep {D : Nat} {r : Loop} {W W' : World} (h : Books D r W) (k : KeepsFrom D W W') : Books D r W' := ⟨k.same _ _ (by omega) h.1 rfl, k.same _ _ (Nat.le_refl _) h.2 rfl⟩
theorem Books.turn {D : Nat} {r : Loop} {W : World} (h : Books D r W) (r' : Loop) : Books D r' (W.putObj (D + 1) (.loop r')) := ⟨World.putObj_heap_same h.lt, (World.putObj_heap_other (by omega)).trans h.2⟩
theorem Books.laid (w : World) (r : Loop) : Books w.heap.size r ((w.alloc (.deferred (some []))).alloc (.loop r)) := by
  constructor
  · have := World.alloc_heap_new (w.alloc (.deferred (some []))) (.loop r)
    rwa [World.size_alloc] at this
  · exact (Below.heap_alloc _ _ _ (by simp)).trans (World.alloc_heap_new w _)

theorem range_st {g : Operand} {ps : Array Tmp} {assign body : Code} {Q : Exit → Act → World → Prop} {a : Act} {w : World} (hro : F.round = none) (h1 : 1 ≤ n)
    {gf : Nat} {fa lb : Array Value} (hg : a.eval g = .func (.func gf) fa lb) (hF : F.fn gf) (eg : ∀ args W, (callFunc gf args).run P W = .ok (.enter gf args) W)
    {encs : Int → Array Value} {Ok : List Int → Int → Prop} {St Rt Kp : World → World → Prop} {S Sp : List Int → World → Prop} (hit : ItGives F (n - 1) P gf fa lb encs Ok St Rt Kp w S Sp) (hps : ∀ x, (encs x).size = ps.size)
    (hRt : ∀ r, Rt w ((w.alloc (.deferred (some []))).alloc (.loop r))) (hSt : ∀ A B, St A B → KeepsFrom w.heap.size A B)
    (hKt : ∀ A B C, Kp A B → Kp B C → Kp A C) (hKb : ∀ (W : World) (o o' : Obj), W.heap[w.heap.size + 1]? = some o → o.isCells = false → Kp W (W.putObj (w.heap.size + 1) o'))
    (I Ix : List Int → World → Prop) (oI : OwnFrom w.heap.size I) (oIx : OwnFrom w.heap.size Ix) (sI : ∀ s A B, I s A → St A B → I s B) (sIx : ∀ s A B, Ix s A → St A B → Ix s B)
    (h0 : I [] w) (a1 : Int → Act)
    (hassign : ∀ (l : Nat) (x : Int) (W : World) (K : Act → World → Prop), K (a1 x) W → assign.wpIn (F.inRound l) (n - 1 - 1) P (Exit.then K (fun _ _ _ => False)) { tmps := (ps.zip (encs x)).foldl (fun t (p, v) => t.setIfInBounds p v) a.tmps, defers := [] } W)
    (hbody : ∀ (l : Nat) (pre : List Int) (x : Int) (W : World), Ok pre x → I pre W → body.wpIn (F.inRound l) (n - 1 - 1) P (fun e _ W' => (e = .normal ∧ KeepsFrom w.heap.size W W' ∧ Kp W W' ∧ I (pre ++ [x]) W') ∨ (e = .ret ∧ KeepsFrom w.heap.size W W' ∧ Kp W W' ∧ Ix (pre ++ [x]) W')) (a1 x) W)
    (hdone : ∀ (D : Nat) (xs : List Int) (W0 W : World) (r : Loop), w.heap.size ≤ D → S xs W0 → I xs W → W = W0.putObj (D + 1) (.loop r) → W.heap[D]? = some (.deferred (some [])) → Q .normal { a with defers := { target := .collected D, args := #[] } :: a.defers } W)
    (hstop : ∀ (D : Nat) (pre : List Int) (W0 W : World) (r : Loop), w.heap.size ≤ D → Sp pre W0 → Ix pre W → W = W0.putObj (D + 1) (.loop r) → W.heap[D]? = some (.deferred (some [])) → Code.ret.wpIn F n P Q { a with defers := { target := .collected D, args := #[] } :: a.defers } W) :
    (Code.rangeFunc g ps assign body).wpIn F n P Q a w := by
  refine wpIn_rangeFunc fun fn hfn => ?_
  rw [hro]
  obtain ⟨rc, hrc⟩ : ∃ rc, rc = recOf fn a.tmps ps assign body w.heap.size := ⟨_, rfl⟩
  obtain ⟨V, hV⟩ : ∃ V, V = (w.alloc (.deferred (some []))).alloc (.loop (rc .ready none)) := ⟨_, rfl⟩
  have bV : Books w.heap.size (rc .ready none) V := by rw [hV]; exact Books.laid w _
  have iV : I [] V := by rw [hV]; exact oI.alloc _ (oI.alloc _ h0)
  refine ⟨w.heap.size + 1, [{ target := .collected w.heap.size, args := #[] }], V, { target := .fn (.func gf) lb, args := fa ++ #[.func (.yield (w.heap.size + 1)) #[] #[]] }, V, gf, fa ++ #[.func (.yield (w.heap.size + 1)) #[] #[]] ++ lb, V, ?_, ?_, ?_, ?_, fun _ => h1, ?_⟩
  · rw [hV, hrc]; exact run_enterLoop_outer _ _ _ _ _
  · simp only [resolve, hg]; simp [go_sem]
  · intro f' h; simp [Target.leads] at h; subst h; exact hF
  · simp [invoke, go_sem, eg]
  · have key := hit (w.heap.size + 1) (fun s W => I s W ∧ Books w.heap.size (rc .ready none) W) (fun s W => Ix s W ∧ Books w.heap.size (rc .done (some .ret)) W) V (by rw [hV]; exact hRt _)
      (fun s A B h st => ⟨sI s A B h.1 st, h.2.keep (hSt A B st)⟩) (fun s A B h st => ⟨sIx s A B h.1 st, h.2.keep (hSt A B st)⟩) ?_ ⟨iV, bV⟩
    · refine key.mono ?_
      rintro e W2 ⟨⟨v, rfl⟩, ⟨xs, hs, hi, hb⟩ | ⟨pre, hs, hi, hb⟩⟩
      · have hend := run_endLoop (P := P) hb.1 (by rw [hrc]; simp [recOf])
        rw [hrc] at hend
        exact ⟨none, _, hend, hdone _ xs W2 _ _ (Nat.le_refl _) hs (oI.putObj _ hi (by omega) hb.1 rfl) rfl ((World.putObj_heap_other (by omega)).trans hb.2)⟩
      · have hend := run_endLoop (P := P) hb.1 (by rw [hrc]; simp [recOf])
        rw [hrc] at hend
        exact ⟨some .ret, _, hend, hstop _ pre W2 _ _ (Nat.le_refl _) hs (oIx.putObj _ hi (by omega) hb.1 rfl) rfl ((World.putObj_heap_other (by omega)).trans hb.2)⟩
    · rintro pre x W hok ⟨hi, hb⟩
      have hy := run_yield (P := P) (args := encs x) hb.1 (by rw [hrc]; exact hps x)
      rw [hrc] at hy
      refine ⟨fn, _, assign, body, hy, roundIn_of_wpIn hfn (hassign _ x W _ ⟨_, run_beginRound hb.1 (by rw [hrc]; rfl), ?_⟩)⟩
      have hB := hb.turn ({ rc .ready none with state := .busy })
      have hk0 := hKb W _ (.loop { rc .ready none with state := .busy }) hb.1 rfl
      refine wpIn_mono (hbody _ pre x _ hok (oI.putObj _ hi (by omega) hb.1 rfl)) ?_
      rintro e a3 W3 (⟨rfl, k3, p3, i3⟩ | ⟨rfl, k3, p3, i3⟩)
      · have hb3 := hB.keep k3
        have hend := run_endRound (P := P) none hb3.1
        rw [hrc] at hend
        have hk1 := hKb W3 _ (.loop (rc .ready none)) hb3.1 rfl
        rw [hrc] at hk1
        exact ⟨_, _, hend, .inl ⟨rfl, ⟨oI.putObj _ i3 (by omega) hb3.1 rfl, by rw [hrc]; rw [hrc] at hb3; exact hb3.turn _⟩, hKt _ _ _ (hKt _ _ _ hk0 p3) hk1⟩⟩
      · have hb3 := hB.keep k3
        have hend := run_endRound (P := P) (some .ret) hb3.1
        rw [hrc] at hend
        have hk1 := hKb W3 _ (.loop (rc .done (some .ret))) hb3.1 rfl
        rw [hrc] at hk1
        exact ⟨_, _, hend, .inr ⟨rfl, ⟨oIx.putObj _ i3 (by omega) hb3.1 rfl, by rw [hrc]; rw [hrc] at hb3; exact hb3.turn _⟩, hKt _ _ _ (hKt _ _ _ hk0 p3) hk1⟩⟩
end
end Go.Proofs.YtpgiljibicigeaaGreatDoor
