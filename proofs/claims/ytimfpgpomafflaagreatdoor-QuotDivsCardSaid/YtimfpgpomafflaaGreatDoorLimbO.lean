/- Walks: DivMod. -/
import Derived.Test.YtimfpgpomafflaaGreatDoorLimbN
import Derived.Deep.AppendLies
namespace Go.Proofs.YtimfpgpomafflaaGreatDoor
open Go.RowKit LM Go.Shelf

/-- 'append(l, y)', l the call's own: where it comes to lie -/
theorem wp_pushLies {P : Program} {ops : Array Oper} {rest : List Oper} {o : Oper} {a : Act} {Q : Exit → Act → World → Prop} (w0 : World) (hg : o.guard = none) (s x : Operand) (t : TypeId)
    (hop : o.op = Op.call { callee := Callee.builtin Builtin.append, args := #[s, x], argTypes := #[t, t] })
    (B : Nat) (e : TypeId) (k : IntKind) (bytes : Nat) (hu : P.underlying t = some (.slice e)) (hinfo : (P.info? e).map (fun i => (i.zero, i.size, i.bytes)) = some (some (.int k 0), 1, bytes))
    (gx cap n : Nat) (l : List Nat) (hn : n = l.length) (hs : a.eval s = .slice (some ⟨gx, 0, none⟩) n cap) (yv : Int) (y : Nat) (hy : yv = (y : Int)) (e' : TypeId)
    (hx : a.eval x = .slice (some ⟨w0.heap.size, 0, none⟩) 1 1)
    (hown : Own w0 B e k (some ⟨gx, 0, none⟩) cap l) (hbytes : (l.length + 1) * bytes ≤ 140737488355328) (hlen : l.length + 1 ≤ maxLen) (hB : B ≤ w0.heap.size)
    (hK : ∀ g cap' w', Own w' B e k (some ⟨g, 0, none⟩) cap' (l ++ [y]) → Below B w0 w' → w0.grownBy w' (some gx) → (g = gx ∨ w0.heap.size < g) → wpList P ops Q rest (a.put o.dst (.slice (some ⟨g, 0, none⟩) (n + 1) cap')) w') :
    wpList P ops Q (o :: rest) a (w0.alloc (.cells #[.int k yv] e')) := by
  subst hn hy
  obtain ⟨i, hi, hz0, hz1, hz2⟩ := info_parts hinfo
  have hown' : (w0.alloc (.cells #[.int k (y : Int)] e')).ownsRow B e 1 (.slice (some ⟨gx, 0, none⟩) l.length cap) l.length (cs k l) := World.ownsRow.alloc hown _
  refine wpList_plain hg fun K hK' => ?_
  refine wp_append_lies _ s x t hop B e i (.int k 0) 1 bytes hu hi hz0 hz1 hz2 rfl (by decide) _ _ _ hs hown' ⟨w0.heap.size, 0, none⟩ 1 1 [.int k (y : Int)] hx rfl ?_ ?_ (by omega) hlen hbytes (by simp; omega) (w0.heap.size + 1) (by simp) ?_
  · intro j u hj
    match j, hj with
    | 0, hj =>
      simp at hj; subst hj
      simp [Addr.add]
    | j + 1, hj => simp at hj
  · intro u hu; simp at hu; subst hu; rfl
  · intro g cap' w' ho hgr hgg hlt
    have hb : Below B w0 w' := ((Below.refl B w0).alloc hB _).grown hgr (by simp; omega) (fun j hj => (hown'.lt j hj).1)
    have hgr2 : w0.grownBy w' (some gx) :=
      ⟨hgr.os, hgr.tape, hgr.output, by have := hgr.size; simp at this; omega, fun j hj hne => by
        rw [hgr.block j (by simp; omega) (by simpa [Value.ownBlock] using hne)]; exact Below.heap_alloc _ _ _ hj⟩
    refine hK' _ _ (hK g cap' w' ?_ hb hgr2 ?_)
    · unfold Own
      rw [cs_append, show cs k [y] = [Value.int k (y : Int)] from rfl]; simpa using ho
    · rcases hgg with h | h
      · left; simpa [Value.ownBlock, eq_comm] using h
      · right; omega
end Go.Proofs.YtimfpgpomafflaaGreatDoor
