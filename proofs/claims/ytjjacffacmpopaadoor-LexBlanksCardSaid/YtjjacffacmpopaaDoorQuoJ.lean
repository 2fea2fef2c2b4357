/- quote: what Read tells, determined by the bytes. -/
import Derived.Test.YtjjacffacmpopaaDoorQuoI
namespace Go.Proofs.YtjjacffacmpopaaDoor
open Go.RowKit UM QM

/-- what is told from a place on, where it ends, with which error -/
inductive Tl (l : List Nat) : Nat → List Int → Nat → Nat → Prop
  | stop {k : Nat} (h : pk l k = 34) : Tl l k [] (k + 1) 0
  | bad {k : Nat} (h : pk l k ≠ 34) (h2 : (pieceF l k).2.1 = false) : Tl l k [] (pieceF l k).2.2 (faultF l (pieceF l k).2.2)
  | go {k : Nat} {xs : List Int} {e err : Nat} (h : pk l k ≠ 34) (h2 : (pieceF l k).2.1 = true) (t : Tl l (pieceF l k).2.2 xs e err) : Tl l k ((pieceF l k).1 :: xs) e err
theorem Tl.go' {l : List Nat} {k k' : Nat} {x : Int} {xs : List Int} {e err : Nat} (h : pk l k ≠ 34) (h2 : pieceF l k = (x, true, k')) (t : Tl l k' xs e err) : Tl l k (x :: xs) e err := by
  have := Tl.go h (by rw [h2]) (xs := xs) (e := e) (err := err) (by rw [h2]; exact t)
  rw [h2] at this
  exact this
theorem Tl.bad' {l : List Nat} {k k' : Nat} {x : Int} (h : pk l k ≠ 34) (h2 : pieceF l k = (x, false, k')) : Tl l k [] k' (faultF l k') := by
  have := Tl.bad h (by rw [h2])
  rw [h2] at this
  exact this
theorem Tl.det {l : List Nat} {k : Nat} {xs : List Int} {e err : Nat} (h : Tl l k xs e err) : ∀ {xs' : List Int} {e' err' : Nat}, Tl l k xs' e' err' → xs = xs' ∧ e = e' ∧ err = err' := by
  induction h with
  | stop h =>
    intro xs' e' err' t
    cases t with
    | stop _ => exact ⟨rfl, rfl, rfl⟩
    | bad h' _ => exact absurd h h'
    | go h' _ _ => exact absurd h h'
  | bad h h2 =>
    intro xs' e' err' t
    cases t with
    | stop h' => exact absurd h' h
    | bad _ _ => exact ⟨rfl, rfl, rfl⟩
    | go _ h' _ => rw [h2] at h'; cases h'
  | go h h2 _ ih =>
    intro xs' e' err' t
    cases t with
    | stop h' => exact absurd h' h
    | bad _ h' => rw [h2] at h'; cases h'
    | go _ _ t' =>
      obtain ⟨r1, r2, r3⟩ := ih t'
      exact ⟨by rw [r1], r2, r3⟩
theorem Tl.of {l : List Nat} {pre : List Int} {j : Nat} (h : Rch l pre j) : pk l 0 = 34 ∧ ∀ {xs : List Int} {e err : Nat}, Tl l j xs e err → Tl l 1 (pre ++ xs) e err := by
  induction h with
  | start h => exact ⟨h, fun t => t⟩
  | step _ h1 h2 ih =>
    refine ⟨ih.1, fun {xs e err} t => ?_⟩
    have := ih.2 (Tl.go h1 h2 t)
    simpa using this
/-- what Read tells -/
def RdR (l : List Nat) (xs : List Int) (k err : Nat) : Prop := (pk l 0 ≠ 34 ∧ xs = [] ∧ k = 0 ∧ err = faultF l 0) ∨ (pk l 0 = 34 ∧ Tl l 1 xs k err)
theorem RdR.of {l : List Nat} {xs : List Int} {k err : Nat} (h : Fin l xs k err) : RdR l xs k err := by
  rcases h with h | ⟨j, hr, hp, rfl, rfl⟩ | ⟨j, hr, hp, hb, rfl, rfl⟩
  · exact .inl h
  · have := (Tl.of hr).2 (Tl.stop hp)
    rw [List.append_nil] at this
    exact .inr ⟨(Tl.of hr).1, this⟩
  · have := (Tl.of hr).2 (Tl.bad hp hb)
    rw [List.append_nil] at this
    exact .inr ⟨(Tl.of hr).1, this⟩
theorem RdR.det {l : List Nat} {xs xs' : List Int} {k err k' err' : Nat} (h : RdR l xs k err) (h' : RdR l xs' k' err') : xs = xs' ∧ k = k' ∧ err = err' := by
  rcases h with ⟨p, rfl, rfl, rfl⟩ | ⟨p, t⟩
  · rcases h' with ⟨_, rfl, rfl, rfl⟩ | ⟨p', _⟩
    · exact ⟨rfl, rfl, rfl⟩
    · exact absurd p' p
  · rcases h' with ⟨p', _⟩ | ⟨_, t'⟩
    · exact absurd p p'
    · exact t.det t'
def toI (ps : List Nat) : List Int := ps.map (fun p => ((p : Nat) : Int))
theorem toI_inj {ps qs : List Nat} (h : toI ps = toI qs) : ps = qs := by
  have := congrArg (List.map Int.toNat) h
  unfold toI at this
  rw [List.map_map, List.map_map] at this
  have e : (Int.toNat ∘ fun p : Nat => ((p : Nat) : Int)) = id := by funext p; simp
  rw [e, List.map_id, List.map_id] at this
  exact this
def ResRv (qs : List Nat) (k err : Nat) (w : World) (r : Ending) (w' : World) : Prop :=
  r = .returned (.tuple #[.string (if err = 0 then tx (encL qs) else ⟨#[]⟩), .int .i64 (k : Nat), .int .i64 (err : Nat)]) ∧ Below w.heap.size w w'
/-- Read, where it is known what it tells -/
theorem Read_of {a : Option Addr} {cap : Nat} {l : List Nat} {w : World} {qs : List Nat} {k err : Nat} (h : RdR l (toI qs) k err) (hl : l.length ≤ 140737488353000) (hlo : LM.Lo 256 l) (hrd : Rd w .u8 a l) (ht : Sh w) (hcp : l.length ≤ cap) :
    Calls Tryd.prog 50 #[.slice a l.length cap] w (ResRv qs k err w) := by
  refine (Read_any a cap l w hl hlo hrd ht hcp).mono ?_
  rintro r w' ⟨ps, k', err', hps, hf, rfl, hb⟩
  obtain ⟨e1, rfl, rfl⟩ := (RdR.of hf).det h
  rw [toI_inj (show toI ps = toI qs from e1)]
  exact ⟨rfl, hb⟩
end Go.Proofs.YtjjacffacmpopaaDoor
