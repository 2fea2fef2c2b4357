/- 'append([]byte(text), more...)', more a slice that came in: one way, the arms hidden. -/
import Derived.Test.YtjjacffacmpopaaDoorQuoF
import Derived.ArgAppend
import Derived.Lib.ConvBytes
namespace Go.Proofs.YtjjacffacmpopaaDoor
open Go.RowKit UM QM

theorem below_cells {B b : Nat} (hb : B ≤ b) {a : World} : ∀ (vs : List Value) (o : Nat) (w : World), Below B a w → Below B a (w.setCells b o vs)
  | [], _, _, h => h
  | v :: vs, o, w, h => below_cells hb vs (o + 1) _ (h.setCell (p := ⟨b, o, none⟩) hb v)
/-- the cells behind a slice's elements, up to its capacity, may be written -/
def Spare (w : World) (b n cap : Nat) : Prop := ∀ j, n ≤ j → j < cap → (w.cell? ⟨b, j, none⟩).isSome = true ∧ w.frozen? ⟨b, j, none⟩ = false
section
variable {P : Program} {ops : Array Oper} {rest : List Oper} {o : Oper} {a : Act} {Q : Exit → Act → World → Prop}
theorem wp_onto (w : World) (hg : o.guard = none) (s x : Operand) (t : TypeId)
    (hop : o.op = Op.call { callee := Callee.builtin Builtin.append, args := #[s, x], argTypes := #[t, t] })
    (B : Nat) (e : TypeId) (hu : P.underlying t = some (.slice e)) (hinfo : (P.info? e).map (fun i => (i.zero, i.size, i.bytes)) = some (some (.int .u8 0), 1, 1))
    (b cap n : Nat) (q : List Nat) (hn : n = q.length) (hs : a.eval s = .slice (some ⟨b, 0, none⟩) n cap) (hq : Rd w .u8 (some ⟨b, 0, none⟩) q) (hsp : Spare w b n cap) (hcap : n ≤ cap) (hB : B ≤ b) (hbl : b < w.heap.size)
    (ax : Option Addr) (m c : Nat) (more : List Nat) (hm : m = more.length) (hx : a.eval x = .slice ax m c) (hmr : Rd w .u8 ax more) (hnil : ax = none → m = 0 ∧ c = 0) (hlen : q.length + more.length ≤ 140737488350000)
    (hK : ∀ a' cap' w', Rd w' .u8 a' (q ++ more) → (q ++ more).length ≤ cap' → (∀ b off, a' = some ⟨b, off, none⟩ → b < w'.heap.size) → Below B w w' → wpList P ops Q rest (a.put o.dst (.slice a' (q ++ more).length cap')) w') :
    wpList P ops Q (o :: rest) a w := by
  subst hn hm
  obtain ⟨i, hi, hz0, hz1, hz2⟩ := info_parts hinfo
  have hcq : ∀ j u, (cs .u8 q)[j]? = some u → w.cell? ⟨b, 0 + j, none⟩ = some u := by
    intro j u hj
    have hjl : j < q.length := by have := (List.getElem?_eq_some_iff.1 hj).1; rwa [cs_length] at this
    obtain ⟨b', off', e', hc⟩ := hq j hjl
    cases e'
    rw [hc, ← hj, cs_get hjl]
  rcases ax with _ | ad
  · obtain ⟨h0, rfl⟩ := hnil rfl
    have hmn : more = [] := List.eq_nil_of_length_eq_zero h0
    subst hmn
    refine wpList_plain hg fun K hK' => ?_
    have hrun : (Builtin.append_ #[t, t] o.type #[.slice (some ⟨b, 0, none⟩) q.length cap, .slice none 0 0]).run P w = .ok (.slice (some ⟨b, 0, none⟩) q.length cap) w := by
      simp [Builtin.append_, run_underlying hu, sizeOf, typeInfo, hi, Builtin.lenOf, Builtin.firstCells, hcap, storeCells]
    unfold Oper.wp
    simp [execOp, hop, resolve, invoke, builtin, hs, hx, hrun, Result.andThen]
    have := hK (some ⟨b, 0, none⟩) cap w (by rw [List.append_nil]; exact hq) (by rw [List.append_nil]; exact hcap) (fun b' off' e' => by cases e'; exact hbl) (Below.refl _ _)
    rw [List.append_nil] at this
    exact hK' _ _ this
  · have hnews : ∀ j u, (cs .u8 more)[j]? = some u → w.cell? (ad.add j) = some u := by
      intro j u hj
      have hjl : j < more.length := by have := (List.getElem?_eq_some_iff.1 hj).1; rwa [cs_length] at this
      obtain ⟨b', off', e', hc⟩ := hmr j hjl
      cases e'
      rw [Lib.add_plain, hc, ← hj, cs_get hjl]
    have hL : (q ++ more).length = q.length + more.length := List.length_append ..
    refine wpList_append_arg w hg s x t hop e i (.int .u8 0) 1 1 hu hi hz0 hz1 hz2 rfl (by decide) b 0 q.length cap (cs .u8 q) hs (by rw [cs_length, Nat.mul_one]) hcq ad more.length c (cs .u8 more) hx (by rw [cs_length, Nat.mul_one]) hnews (cs_oneCell .u8 more) ?_ (by unfold maxLen; omega) (by omega) ?_ ?_
    · intro hr j hj
      rw [cs_length] at hj
      have := hsp (0 + q.length * 1 + j) (by omega) (by omega)
      exact this
    · intro hr
      rw [← hL]
      have hin := World.cell?_setCells_in b (cs .u8 more) (0 + q.length * 1) w (fun j hj => by
        rw [cs_length] at hj
        exact (hsp (0 + q.length * 1 + j) (by omega) (by omega)).1)
      refine hK (some ⟨b, 0, none⟩) cap _ (Rd.mk fun j hj => ?_) (by omega) (fun b' off' e' => ?_) (below_cells hB _ _ _ (Below.refl _ _))
      · by_cases hjq : j < q.length
        · rw [World.cell?_setCells_out b _ _ _ _ (fun _ _ => .inl (by simp only; omega)), List.getElem?_append_left hjq]
          have := hcq j _ (cs_get hjq)
          exact this
        · have hjm : j - q.length < more.length := by omega
          have h2 := hin (j - q.length) (by rw [cs_length]; exact hjm)
          rw [show 0 + q.length * 1 + (j - q.length) = 0 + j by omega] at h2
          rw [h2, List.getElem?_append_right (by omega)]
          have h3 := cs_get (k := .u8) hjm
          rw [List.getElem?_eq_getElem (by rw [cs_length]; exact hjm)] at h3
          exact h3
      · cases e'
        have := (below_cells hB (cs .u8 more) (0 + q.length * 1) w (Below.refl _ _)).size
        omega
    · intro hr v' w' ho hgr
      have hsh : ∃ g cap', v' = .slice (some ⟨g, 0, none⟩) (q.length + more.length) cap' := by
        rcases ho.2 with ⟨h1, h2⟩ | ⟨g, cap', cur, h1, _⟩
        · omega
        · exact ⟨g, cap', h1⟩
      obtain ⟨g, cap', rfl⟩ := hsh
      have hown : Own w' w.heap.size e .u8 (some ⟨g, 0, none⟩) cap' (q ++ more) := by
        unfold Own
        rw [cs_append, hL]; exact ho
      rw [← hL]
      exact hK _ _ _ hown.rd hown.cap.1 (fun b' off' e' => by cases e'; exact hown.ge.2) ((Below.refl B w).grown hgr (by omega) (fun k e' => by cases e'))
end
end Go.Proofs.YtjjacffacmpopaaDoor
