/- Walks: Shift. -/
import Derived.Test.YtofeckdhhaoobaaDoorLimbI
import Derived.Laws.AppendOwnNone
namespace Go.Proofs.YtofeckdhhaoobaaDoor
open Go.RowKit LM

/-- 'append(l, m...)', l and m the call's own, m elsewhere -/
theorem wp_cat {P : Program} {ops : Array Oper} {rest : List Oper} {o : Oper} {a : Act} {Q : Exit → Act → World → Prop} (w : World) (hg : o.guard = none) (s x : Operand) (t : TypeId)
    (hop : o.op = Op.call { callee := Callee.builtin Builtin.append, args := #[s, x], argTypes := #[t, t] })
    (B : Nat) (e : TypeId) (k : IntKind) (bytes : Nat) (hu : P.underlying t = some (.slice e)) (hinfo : (P.info? e).map (fun i => (i.zero, i.size, i.bytes)) = some (some (.int k 0), 1, bytes))
    (ao am : Option Addr) (cap cm n q : Nat) (l m : List Nat) (hn : n = l.length) (hq : q = m.length) (hs : a.eval s = .slice ao n cap) (hx : a.eval x = .slice am q cm)
    (hown : Own w B e k ao cap l) (hm : Rd w k am m) (hm0 : am = none → m = [] ∧ cm = 0) (hbytes : (l.length + m.length) * bytes ≤ 140737488355328) (hlen : l.length + m.length ≤ maxLen) (hB : B ≤ w.heap.size)
    (hK : ∀ ao' cap' w', Own w' B e k ao' cap' (l ++ m) → Below B w w' → w.grownBy w' (Value.slice ao n cap).ownBlock → wpList P ops Q rest (a.put o.dst (.slice ao' (n + q) cap')) w') :
    wpList P ops Q (o :: rest) a w := by
  subst hn hq
  obtain ⟨i, hi, hz0, hz1, hz2⟩ := info_parts hinfo
  have hown' : w.ownsRow B e 1 (.slice ao l.length cap) l.length (cs k l) := hown
  cases am with
  | none =>
    obtain ⟨rfl, rfl⟩ := hm0 rfl
    refine wpList_append_own_none hg s x t hop B e i 1 hu hi _ _ _ hs hown' (by simpa using hx) ?_
    have := hK ao cap w (by simpa using hown) (Below.refl _ _) (gb_refl _ _)
    simpa using this
  | some ad =>
    have hnews : ∀ j u, (cs k m)[j]? = some u → w.cell? (ad.add j) = some u := by
      intro j u hj
      have hjl : j < m.length := by have := (List.getElem?_eq_some_iff.1 hj).1; rwa [cs_length] at this
      obtain ⟨b, off, e1, hc⟩ := hm j hjl
      rw [cs_get hjl] at hj
      simp only [Option.some.injEq] at e1 hj
      subst e1
      rw [Lib.add_plain, hc, hj]
    refine wpList_append_own _ hg s x t hop B e i (.int k 0) 1 bytes hu hi hz0 hz1 hz2 rfl (by decide) _ _ _ hs hown' ad m.length cm (cs k m) hx (by rw [cs_length, Nat.mul_one]) hnews (cs_oneCell k m) hlen hbytes hB ?_
    intro v' w' ho hgr hnil
    have hb : Below B w w' := (Below.refl B w).grown hgr hB (fun j hj => (hown'.lt j hj).1)
    have hsh : ∃ ao' cap', v' = .slice ao' (l.length + m.length) cap' := by
      rcases ho.2 with ⟨h1, h2⟩ | ⟨g, cap', cur, h1, _⟩
      · rw [h2]; exact ⟨_, _, h1⟩
      · exact ⟨_, _, h1⟩
    obtain ⟨ao', cap', rfl⟩ := hsh
    refine hK ao' cap' w' ?_ hb hgr
    unfold Own
    rw [cs_append, List.length_append]; exact ho

theorem Own.none_nil {w : World} {B : Nat} {e : TypeId} {k : IntKind} {a : Option Addr} {cap : Nat} {l : List Nat} (h : Own w B e k a cap l) (ha : a = none) : l = [] ∧ cap = 0 := by
  rcases h.shape with ⟨_, h1, h2⟩ | ⟨g, h1, _⟩
  · exact ⟨h2, h1⟩
  · rw [ha] at h1; cases h1
theorem shift_pow (n : Nat) : 1000000000 ^ (n / 9) * 10 ^ (n % 9) = 10 ^ n := by
  rw [show (1000000000 : Nat) = 10 ^ 9 by decide, ← Nat.pow_mul, ← Nat.pow_add, Nat.div_add_mod]
theorem shift_val {v n : Nat} : tr (List.replicate (n / 9) 0 ++ dg 1000000000 (v * vl 1000000000 [10 ^ (n % 9)])) = dg 1000000000 (v * 10 ^ n) := by
  rw [tr_eq (by omega) (Lo_append (Lo_zeros (by omega)) (Lo_dg (by omega) _)), vl_append, vl_zeros, vl_dg (by omega), vl_one, List.length_replicate, Nat.zero_add, Nat.mul_left_comm, shift_pow]

set_option maxHeartbeats 1000000 in
theorem Shift_bad (a : Option Addr) (cap : Nat) (l : List Nat) (n : Int) (w : World) (hn : n < 0 ∨ 30000 < n) :
    Calls Tryd.prog 86 #[.slice a l.length cap, .int .i64 n] w fun e w' => e = .returned (.tuple #[.slice none 0 0, .int .i64 1]) ∧ w = w' := by
  have hM := mayShift_no n w hn
  have HM := Lib.hid hM
  clear hM hn
  go_enter Tryd.func86, Tryd.ntmps86
  go_wp2_with fail
  refine HM.out.mono ?_
  rintro e w' ⟨rfl, rfl⟩
  go_wp2
  go_ret2
  exact ⟨rfl, rfl⟩

theorem mul_len {l : List Nat} {q : Nat} (h : Lo 4294967296 l) (hq : q < 1000000000) : (dg 1000000000 (vl 1000000000 l * vl 1000000000 [q])).length ≤ l.length + 2 := by
  refine dg_len_of_lt (by omega) ?_
  rw [vl_one, Nat.pow_succ]
  have h1 := vl_bound h
  rcases Nat.eq_zero_or_pos q with e | e
  · subst e; rw [Nat.mul_zero]; exact Nat.mul_pos (Nat.pow_pos (by omega)) (by omega)
  · exact Nat.mul_lt_mul'' h1 hq

set_option maxHeartbeats 4000000 in
theorem Shift_any (a : Option Addr) (cap : Nat) (l : List Nat) (n : Nat) (w : World) (hn : n ≤ 30000) (hl : l.length ≤ 536870912) (hlo : Lo 4294967296 l) (hrd : Rd w .u32 a l) :
    Calls Tryd.prog 86 #[.slice a l.length cap, .int .i64 n] w fun e w' => ∃ a' cap', e = .returned (.tuple #[.slice a' (dg 1000000000 (vl 1000000000 l * 10 ^ n)).length cap', .int .i64 0]) ∧
      Own w' w.heap.size 50 .u32 a' cap' (dg 1000000000 (vl 1000000000 l * 10 ^ n)) ∧ Below w.heap.size w w' := by
  have HLO := Lib.hid hlo
  clear hlo
  go_enter Tryd.func86, Tryd.ntmps86
  go_wp2_with fail
  refine (mayShift_yes n w hn).mono ?_
  rintro e w' ⟨rfl, rfl⟩
  go_wp2_with fail
  refine (tenTo_any (n % 9) w (by omega)).mono ?_
  rintro e w' ⟨q, HQ, hq, rfl, rfl⟩
  have hm1 : Lo 4294967296 [q] := Lo_one (by omega)
  have hrdq : Rd (w.alloc (.cells #[.int .u32 (q : Int)] 50)) .u32 (some ⟨w.heap.size, 0, none⟩) [q] := by
    refine Rd.mk fun j hj => ?_
    have : j = 0 := by simpa using hj
    subst this; simp
  have hM := Mul_any a (some ⟨w.heap.size, 0, none⟩) cap 1 l [q] (w.alloc (.cells #[.int .u32 (q : Int)] 50)) (by omega) (by simp) HLO.out hm1 (hrd.alloc _) hrdq
  have hlen : (dg 1000000000 (vl 1000000000 l * vl 1000000000 [q])).length ≤ 536870920 := by
    exact Nat.le_trans (mul_len HLO.out (by omega)) (by omega)
  have HM := Lib.hid hM
  clear hM hm1 hrdq
  go_wp2_with fail
  refine HM.out.mono ?_
  rintro e w2 ⟨a2, c2, rfl, hown2, hb2⟩
  have hbl2 : Below w.heap.size w w2 := ((Below.refl w.heap.size w).alloc (Nat.le_refl _) _).trans (hb2.mono (by simp))
  have hv : tr (List.replicate (n / 9) 0 ++ dg 1000000000 (vl 1000000000 l * vl 1000000000 [q])) = dg 1000000000 (vl 1000000000 l * 10 ^ n) := by rw [HQ.out]; exact shift_val
  have HV := Lib.hid hv
  clear hb2 HM hv hrd
  generalize dg 1000000000 (vl 1000000000 l * vl 1000000000 [q]) = M at *
  have hrd2 := hown2.rd
  have hnone := fun h => hown2.none_nil h
  have HNONE := Lib.hid hnone
  have HR2 := Lib.hid hrd2
  clear hown2 hrd2 hnone
  go_wp2_with (at_make; refine wp_make _ rfl _ _ 22 rfl w2.heap.size 50 .u32 4 Tryd.underlying22 infoU32 _ _ _ _ (n / 9) rfl rfl (by omega) (by omega) (by omega) (by unfold maxLen; omega) (Nat.le_refl _) ?_)
  intro w3 hown3 hb3
  have hrd3 := HR2.out.below hb3
  have hrl : (List.replicate (n / 9) 0).length = n / 9 := List.length_replicate
  have hcl : ((List.replicate (n / 9) 0).length + M.length) * 4 ≤ 140737488355328 := by rw [hrl]; omega
  have hcl2 : (List.replicate (n / 9) 0).length + M.length ≤ maxLen := by rw [hrl]; unfold maxLen; omega
  have hbl3 : Below w.heap.size w w3 := hbl2.trans (hb3.mono hbl2.size)
  have HRL := Lib.hid hrl; have HCL := Lib.hid hcl; have HCL2 := Lib.hid hcl2
  clear hrl hcl hcl2
  go_wp2_with (at_builtin; refine wp_cat w3 rfl _ _ 22 rfl w.heap.size 50 .u32 4 Tryd.underlying22 infoU32 _ a2 _ c2 (n / 9) M.length (List.replicate (n / 9) 0) M HRL.out.symm rfl rfl rfl (hown3.mono hbl2.size) hrd3 HNONE.out HCL.out HCL2.out hbl3.size ?_)
  intro a4 c4 w4 hown4 hb4 _
  have hbl4 := hbl3.trans hb4
  have hlen4 : (List.replicate (n / 9) 0 ++ M).length = n / 9 + M.length := by simp
  have hR := trim_any a4 c4 _ w4 (by rw [hlen4]; omega) hown4.rd (hown4.cap.1)
  have ht2 := tr_take (List.replicate (n / 9) 0 ++ M)
  have hown5 := hown4.take (tr (List.replicate (n / 9) 0 ++ M)).length (by rw [ht2]; simp; omega)
  rw [← ht2] at hown5
  rw [HV.out] at hR hown5
  rw [hlen4] at hR
  have HR := Lib.hid hR
  clear hR ht2 hown4 hown3 hlen4
  go_wp2_with fail
  refine HR.out.mono ?_
  rintro e w5 ⟨rfl, rfl⟩
  go_wp2
  go_ret2
  exact ⟨_, _, rfl, hown5, hbl4⟩
end Go.Proofs.YtofeckdhhaoobaaDoor
