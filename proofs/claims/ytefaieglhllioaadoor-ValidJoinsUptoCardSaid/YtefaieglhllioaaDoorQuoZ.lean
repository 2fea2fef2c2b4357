/- 'append(l, more...)': l the call's own, more a slice that came in. -/
import Derived.Test.YtefaieglhllioaaDoorQuoV
import Derived.Test.YtefaieglhllioaaDoorQuoY
import Derived.Laws.AppendOwnNone
namespace Go.Proofs.YtefaieglhllioaaDoor
open Go.RowKit UM QM

section
variable {P : Program} {ops : Array Oper} {rest : List Oper} {o : Oper} {a : Act} {Q : Exit → Act → World → Prop}
theorem wp_ownarg (w : World) (hg : o.guard = none) (s x : Operand) (t : TypeId)
    (hop : o.op = Op.call { callee := Callee.builtin Builtin.append, args := #[s, x], argTypes := #[t, t] })
    (B : Nat) (e : TypeId) (hu : P.underlying t = some (.slice e)) (hinfo : (P.info? e).map (fun i => (i.zero, i.size, i.bytes)) = some (some (.int .u8 0), 1, 1))
    (ao : Option Addr) (cap n : Nat) (q : List Nat) (hn : n = q.length) (hs : a.eval s = .slice ao n cap) (hown : Own w B e .u8 ao cap q) (hB : B ≤ w.heap.size)
    (ax : Option Addr) (m c : Nat) (more : List Nat) (hm : m = more.length) (hx : a.eval x = .slice ax m c) (hmr : Rd w .u8 ax more) (hnil : ax = none → m = 0 ∧ c = 0) (hlen : q.length + more.length ≤ 140737488355328)
    (hK : ∀ ao' cap' w', Own w' B e .u8 ao' cap' (q ++ more) → Below B w w' → wpList P ops Q rest (a.put o.dst (.slice ao' (q ++ more).length cap')) w') :
    wpList P ops Q (o :: rest) a w := by
  subst hn hm
  obtain ⟨i, hi, hz0, hz1, hz2⟩ := info_parts hinfo
  have hown' : w.ownsRow B e 1 (.slice ao q.length cap) q.length (cs .u8 q) := hown
  rcases ax with _ | ad
  · obtain ⟨h0, rfl⟩ := hnil rfl
    have hmn : more = [] := List.eq_nil_of_length_eq_zero h0
    subst hmn
    refine wpList_append_own_none hg s x t hop B e i 1 hu hi _ _ _ hs hown' hx ?_
    have := hK ao cap w (by rw [List.append_nil]; exact hown) (Below.refl _ _)
    rw [List.append_nil] at this
    exact this
  · have hnews : ∀ j u, (cs .u8 more)[j]? = some u → w.cell? (ad.add j) = some u := by
      intro j u hj
      have hjl : j < more.length := by have := (List.getElem?_eq_some_iff.1 hj).1; rwa [cs_length] at this
      obtain ⟨b', off', e', hc⟩ := hmr j hjl
      cases e'
      rw [Lib.add_plain, hc, ← hj, cs_get hjl]
    have hL : (q ++ more).length = q.length + more.length := List.length_append ..
    refine wpList_append_own _ hg s x t hop B e i (.int .u8 0) 1 1 hu hi hz0 hz1 hz2 rfl (by decide) _ _ _ hs hown' ad more.length c (cs .u8 more) hx (by rw [cs_length, Nat.mul_one]) hnews (cs_oneCell .u8 more) (by unfold maxLen; omega) (by omega) hB ?_
    intro v' w' ho hgr hnl
    have hb : Below B w w' := (Below.refl B w).grown hgr hB (fun j hj => (hown'.lt j hj).1)
    have hsh : ∃ ao' cap', v' = .slice ao' (q.length + more.length) cap' := by
      rcases ho.2 with ⟨h1, h2⟩ | ⟨g, cap', cur, h1, _⟩
      · exact ⟨none, 0, by rw [h1, h2]⟩
      · exact ⟨_, _, h1⟩
    obtain ⟨ao', cap', rfl⟩ := hsh
    rw [← hL]
    refine hK ao' cap' w' ?_ hb
    unfold Own
    rw [cs_append, hL]; exact ho
end
theorem coded_le {l : List Nat} {k : Nat} (hk : k ≤ l.length) : (codedF l k).2.2 ≤ l.length := by
  have hu : (un l k).2.2 ≤ l.length := (unitF_at hk).2
  unfold codedF
  by_cases c0 : (un l k).2.1 = false
  · rw [if_pos c0]; exact hu
  rw [if_neg c0]
  by_cases c1 : (un l k).1 < 55296 ∨ 57343 < (un l k).1
  · rw [if_pos c1]; exact hu
  rw [if_neg c1]
  by_cases c2 : 56320 ≤ (un l k).1
  · rw [if_pos c2]; exact hu
  rw [if_neg c2]
  by_cases c3 : (lowF l (un l k).2.2).2.1 = true
  · rw [if_pos c3]; exact low_end l _ c3
  · rw [if_neg c3]; exact hu
theorem esc_le {l : List Nat} {k : Nat} (hk : k ≤ l.length) : (escF l k).2.2 ≤ l.length := by
  unfold escF
  by_cases h : pk l k = -1
  · rw [h]; exact hk
  have h1 := pk_pos h
  have h2 := coded_le (l := l) (k := k + 1) h1
  repeat' split
  all_goals (try simp only)
  all_goals omega
theorem piece_le {l : List Nat} {k : Nat} (hk : k ≤ l.length) : (pieceF l k).2.2 ≤ l.length := by
  unfold pieceF
  by_cases c1 : pk l k < 32
  · rw [if_pos c1]; exact hk
  rw [if_neg c1]
  have h1 : k < l.length := pk_pos (by omega)
  by_cases c2 : 127 < pk l k
  · rw [if_pos c2]
    unfold pointF
    by_cases c3 : (dcd ((l.drop k).take 4)).2.2 = true
    · rw [if_pos c3]
      rcases dcd_cases ((l.drop k).take 4) with ⟨p, t, hp, e1, e⟩ | ⟨_, e⟩ | ⟨_, e⟩
      · rw [e]
        have := congrArg List.length e1
        rw [List.length_append, enc_len, List.length_take, List.length_drop] at this
        simp only; omega
      · rw [e] at c3; cases c3
      · rw [e] at c3; cases c3
    rw [if_neg c3]
    by_cases c4 : cutB ((l.drop k).take 4) = true
    · rw [if_pos c4]; exact Nat.le_refl _
    · rw [if_neg c4]; exact hk
  rw [if_neg c2]
  by_cases c3 : pk l k = 92
  · rw [if_pos c3]; exact esc_le h1
  · rw [if_neg c3]; exact h1
theorem Tl.fin {l : List Nat} {k : Nat} {xs : List Int} {e err : Nat} (t : Tl l k xs e err) (hk : k ≤ l.length) : e ≤ l.length := by
  induction t with
  | stop hp => exact pk_pos (by rw [hp]; decide)
  | bad h h2 => exact piece_le hk
  | go hp h2 t ih => exact ih (piece_le hk)
theorem RdR.fin {l : List Nat} {xs : List Int} {n err : Nat} (h : RdR l xs n err) : n ≤ l.length := by
  rcases h with ⟨_, _, rfl, _⟩ | ⟨p, t⟩
  · exact Nat.zero_le _
  · exact t.fin (pk_pos (by rw [p]; decide))
theorem Tl.err5 {l : List Nat} {k : Nat} {xs : List Int} {e err : Nat} (t : Tl l k xs e err) (h0 : err ≠ 0) : err = faultF l e := by
  induction t with
  | stop hp => exact absurd rfl h0
  | bad h h2 => rfl
  | go hp h2 t ih => exact ih h0
theorem RdR.short {l : List Nat} {xs : List Int} {n err : Nat} (h : RdR l xs n err) (h5 : err = 5) : n = l.length := by
  have hf : err = faultF l n := by
    rcases h with ⟨_, _, rfl, e⟩ | ⟨_, t⟩
    · exact e
    · exact t.err5 (by omega)
  have hn := h.fin
  rw [h5] at hf
  unfold faultF at hf
  by_cases c : pk l n = -1
  · unfold pk at c
    by_cases c2 : n < l.length
    · rw [if_pos c2] at c; omega
    · omega
  · rw [if_neg c] at hf
    split at hf <;> cases hf
end Go.Proofs.YtefaieglhllioaaDoor
