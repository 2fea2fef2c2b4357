/- quote: Is walked. -/
import Derived.Test.YtjjacffacmpopaaDoorQuoR
namespace Go.Proofs.YtjjacffacmpopaaDoor
open Go.RowKit UM QM

attribute [local go_sem] Oper.semAt_some
theorem putCell {W : World} {p : Addr} {v : Value} (h : W.cell? p = some v) {D : Nat} (o : Obj) (hD : p.block < D) : (W.putObj D o).cell? p = some v := ((putBelow W D D o (Nat.le_refl _)).cell hD).trans h
theorem koN (W : World) (n : Nat) : KeepsOthers W (W.drewN n) := ⟨Nat.le_refl _, fun _ _ h _ => h⟩
theorem cell_new {W : World} {C : Array Value} {t : TypeId} {b j : Nat} (hb : b = W.heap.size) : (W.alloc (.cells C t)).cell? ⟨b, j, none⟩ = C[j]? := by subst hb; exact World.cell?_alloc_mark W C t (0, 0) j
theorem cell_old {W : World} {o : Obj} {p : Addr} (h : p.block < W.heap.size) : (W.alloc o).cell? p = W.cell? p := ((Below.refl W.heap.size W).alloc (Nat.le_refl _) o).cell h
theorem frz_new {W : World} {C : Array Value} {t : TypeId} {b j : Nat} (hb : b = W.heap.size) : (W.alloc (.cells C t)).frozen? ⟨b, j, none⟩ = false := by subst hb; simp
theorem frz_old {W : World} {o : Obj} {p : Addr} (h : p.block < W.heap.size) : (W.alloc o).frozen? p = W.frozen? p := ((Below.refl W.heap.size W).alloc (Nat.le_refl _) o).frozen h
end Go.Proofs.YtjjacffacmpopaaDoor
